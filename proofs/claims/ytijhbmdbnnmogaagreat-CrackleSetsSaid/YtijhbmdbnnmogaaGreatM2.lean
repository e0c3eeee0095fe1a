/- Walks: names. · Walks: graphOf. · What comes in: a map, a slice of numbers. -/
import Derived.Test.YtijhbmdbnnmogaaGreatM1
import Derived.ProofKit
import Derived.OpenShut
import Derived.ChangeOld
import Derived.Below
import Derived.Lib.SmallJoins
import Derived.Deep.Slices
namespace Go.Proofs.YtijhbmdbnnmogaaGreat.G
open Go.RowKit

def lenOf : Value → Nat
  | .slice _ n _ => n
  | _ => 0
/-- the number at a cell -/
def numAt (w : World) (g j : Nat) : Int := match w.cell? ⟨g, j, none⟩ with
  | some (.int _ z) => z
  | _ => 0
theorem numAt_bi {w : World} {g n : Nat} {x : Nat → Int} (h : BI w g n x) {j : Nat} (hj : j < n) : numAt w g j = x j := by
  unfold numAt; rw [Bk.cell h hj]
theorem unv_bi {w : World} {g n : Nat} {x : Nat → Int} (h : BI w g n x) : unv (numAt w g) n = unv x n := unv_congr n fun _ hj => numAt_bi h hj
/-- without its last -/
theorem Qs.pop {w : World} {base : Nat} {A : Option Addr} {n c : Nat} {x : Nat → Int} (h : Qs w base (.slice A (n + 1) c) (n + 1) x) : Qs w base (.slice A n c) n x := by
  obtain ⟨h0, A', c', e, h1, h2, h3⟩ := h
  injection e with e1 _ e3
  subst e1 e3
  exact ⟨fun b hb => h0 b (by cases A with | none => simp [Value.ownBlock] at hb | some a => exact hb), A, c, rfl, by omega, h2, h3.imp id fun ⟨g, off, cur, hA, hb, hg, hs, hc⟩ => ⟨g, off, cur, hA, hb, hg, hs, fun j hj => hc j (by omega)⟩⟩
theorem Qs.far {w : World} {base g i : Nat} {v u : Value} {n : Nat} {x : Nat → Int} (h : Qs w base v n x) (hg : g < base) : Qs (w.setCell ⟨g, i, none⟩ u) base v n x :=
  h.block (by simp [World.setCell]) fun b hb => Below.heap_setCell w ⟨g, i, none⟩ u b (fun e => by have := (h.1 b hb).1; simp only at e; omega)
theorem List.split_last {α : Type} (s : List α) : s = [] ∨ ∃ t d, s = t ++ [d] := by
  rcases s.eq_nil_or_concat with h | ⟨t, d, h⟩
  · exact .inl h
  · exact .inr ⟨t, d, by simpa using h⟩

set_option maxHeartbeats 4000000 in
set_option maxRecDepth 100000 in
theorem names_any (n k : Nat) (f : Nat → Int) (st : Nat → Nat → Nat) (id : Nat → Nat) (pre : Nat → Array Value) (NV SV : Value) (W : World) (hN : Il W NV n f) (hn : n ≤ 100) (hk2 : k ≤ 2)
    (hS : Vl W SV k (fun i => .func (.func (id i)) (pre i) #[])) (hst : ∀ i, i < k → ∀ d, d < n → st i d < n)
    (hcf : ∀ i, i < k → ∀ args w, (callFunc (id i) args).run Tryz.prog w = .ok (.enter (id i) args) w)
    (hop : ∀ i, i < k → ∀ X, Ext W X → ∀ d, d < n → Calls Tryz.prog (id i) ((pre i).push (.int .i64 d)) X fun e X' => e = .returned (.int .i64 (st i d : Nat)) ∧ Ext X X') :
    Calls Tryz.prog 107 #[.agg #[NV], SV] W fun e W' => ∃ (m : Nat → Nat) (g : Nat), e = .returned (.slice (some ⟨g, 0, none⟩) n n) ∧ W.heap.size ≤ g ∧ BI W' g n (fun d => ((m d : Nat) : Int)) ∧ Nm n k st m ∧ Ext W W' := by
  have HN := Lib.hid hN; have HS := Lib.hid hS; have HST := Lib.hid hst; have HCF := Lib.hid hcf; have HOP := Lib.hid hop
  clear hst hcf hop
  obtain ⟨A, c, rfl, hac, hcm, -⟩ := hN
  obtain ⟨AS, cS, rfl, hacS, hcmS, -⟩ := hS
  have hm1 : ∀ w, (Instr.makeSlice 22 (.int .i64 (n : Int)) (.int .i64 (n : Int))).run Tryz.prog w = .ok (.slice (some ⟨w.heap.size, 0, none⟩) n n) (w.alloc (.cells (Array.ofFn fun _ : Fin n => .int .i64 0) 3)) := fun w => make_one 22 3 _ 8 Tryz.underlying22 info3 rfl (by omega) n (by omega) w
  go_enter Tryz.func107, Tryz.ntmps107
  go_upto_region 1 with fail
  have bb := al1 W (.cells #[.slice A n c] 29)
  obtain ⟨m0, -, mz⟩ := uno (heap_alloc_new W (.cells #[.slice A n c] 29))
  generalize W.alloc (.cells #[.slice A n c] 29) = W1 at *
  have HB : Hid (Ext W W1) := Lib.hid bb
  clear bb
  go_upto_region 2 with fail
  have y1 : BI (W1.alloc (.cells (Array.ofFn fun _ : Fin n => Value.int .i64 0) 3)) W1.heap.size n (fun _ => 0) := heap_alloc_new W1 _
  have e1 : Ext W1 (W1.alloc (.cells (Array.ofFn fun _ : Fin n => Value.int .i64 0) 3)) := Ext.alc (Ext.refl _) _
  have z1 : W1.heap.size < (W1.alloc (.cells (Array.ofFn fun _ : Fin n => Value.int .i64 0) 3)).heap.size := by simp
  obtain ⟨g, hg⟩ : ∃ g, g = W1.heap.size := ⟨_, rfl⟩
  rw [← hg] at y1 z1
  rw [← hg]
  have hgW : W1.heap.size ≤ g := by omega
  have hgW0 : W.heap.size ≤ g := by omega
  have Y1 := Lib.hid (And.intro y1 e1)
  clear y1 e1 hg m0 mz
  generalize W1.alloc (.cells (Array.ofFn fun _ : Fin n => Value.int .i64 0) 3) = W2 at *
  obtain ⟨B0, hB0⟩ : ∃ B, B = W2.heap.size := ⟨_, rfl⟩
  rw [← hB0] at z1
  have HB0 : Hid (B0 = W2.heap.size) := Lib.hid hB0
  clear hB0
  go_wp2_with fail
  go_loopw [18] (fun i wr => ∃ j : Nat, i = .int .i64 j ∧ j ≤ n ∧ Hid (BI wr g n (fun v => if v < j then -1 else 0) ∧ wr.heap.size = B0 ∧ Ext W1 wr)) (fun i _ => n - (intOf i).toNat)
  case atStart => exact ⟨0, rfl, Nat.zero_le _, Lib.hid ⟨Bk.congr Y1.out.1 (fun j _ => by simp), HB0.out.symm, Y1.out.2⟩⟩
  case round =>
    clear Y1
    obtain ⟨j, rfl, hj, hin⟩ := hrel
    obtain ⟨wo, rfl⟩ : ∃ w, w = wr := ⟨_, rfl⟩
    by_cases hlt : j < n
    · have f4 := Bk.free hin.out.1 j
      have c4 := Bk.cell hin.out.1 hlt
      go_wp2
      go_roundw
      case rel =>
        refine ⟨j + 1, by go_num, by omega, Lib.hid ⟨Bk.congr (BI.set_ hin.out.1 j (-1)) (fun v _ => ?_), by simp [World.setCell]; exact hin.out.2.1, hin.out.2.2.sc hgW⟩⟩
        congr 1
        by_cases e : v = j
        · subst e; rw [up_self]; dsimp only; rw [if_pos (by omega)]
        · rw [up_ne _ _ e]
          dsimp only
          by_cases e2 : v < j
          · rw [if_pos e2, if_pos (by omega)]
          · rw [if_neg e2, if_neg (by omega)]
      case measure => simp [intOf]; omega
    · obtain rfl : j = n := by omega
      have HIN := Lib.hid (And.intro (Bk.congr hin.out.1 (g := fun _ => .int .i64 (-1)) (fun v hv => by dsimp only; rw [if_pos hv])) hin.out.2)
      clear hin hlt hj
      go_wp2_with fail
      go_loopw [27] (fun i wr => ∃ L : Nat, i = .int .i64 L ∧ L ≤ j ∧ Hid (∃ x, BI wr g j x ∧ Dn j k st L x ∧ B0 ≤ wr.heap.size ∧ Ext W1 wr)) (fun i _ => j - (intOf i).toNat)
      case atStart => exact ⟨0, rfl, Nat.zero_le _, Lib.hid ⟨_, HIN.out.1, Dn.start _ _ _, by rw [HIN.out.2.1]; exact Nat.le_refl _, HIN.out.2.2⟩⟩
      case round =>
        clear HIN
        obtain ⟨L, rfl, hL, hin⟩ := hrel
        by_cases hlt : L < j
        · obtain ⟨x, hx, hdn, hB, hE⟩ := hin.out
          have HX := Lib.hid (And.intro hx (And.intro (hdn.dg hlt 0) (And.intro hB hE)))
          clear hin hx hdn hB hE
          go_upto_region 11 with fail
          have q1 := Qs.one wr B0 L HX.out.2.2.1 (fun i => (([L].getD i 0 : Nat) : Int)) (by simp)
          have x1 : BI (wr.alloc (.cells #[.int .i64 L] 3)) g j x := Bk.alloc HX.out.1 _
          have x2 : B0 ≤ (wr.alloc (.cells #[.int .i64 L] 3)).heap.size := by have := HX.out.2.2.1; simp; omega
          have x3 : Ext W1 (wr.alloc (.cells #[.int .i64 L] 3)) := HX.out.2.2.2.alc _
          have HY := Lib.hid (And.intro q1 (And.intro x1 (And.intro HX.out.2.1 (And.intro x2 x3))))
          clear q1 x1 x2 x3 HX
          obtain ⟨v0, hv0⟩ : ∃ v, v = Value.slice (some ⟨wr.heap.size, 0, none⟩) 1 1 := ⟨_, rfl⟩
          have HV0 := Lib.hid hv0
          clear hv0
          generalize wr.alloc (.cells #[.int .i64 L] 3) = w3 at *
          go_loopw [8] (fun v wx => Hid (∃ (s : List Nat) (x : Nat → Int), Qs wx B0 v s.length (fun i => ((s.getD i 0 : Nat) : Int)) ∧ BI wx g j x ∧ Dg j k st L x s 0 k ∧ B0 ≤ wx.heap.size ∧ Ext W1 wx)) (fun v wx => (k + 1) * unv (numAt wx g) j + lenOf v)
          case atStart => exact Lib.hid ⟨[L], x, HY.out.1, HY.out.2.1, HY.out.2.2.1, HY.out.2.2.2.1, HY.out.2.2.2.2⟩
          case round =>
            clear HY HV0
            obtain ⟨s, x, hqs, hxx, hdg, hBB, hEE⟩ := hrel.out
            clear hrel
            rcases List.split_last s with rfl | ⟨t, d, rfl⟩
            · have HD := Lib.hid (And.intro hxx (And.intro (hdg.done HST.out hlt) (And.intro hBB hEE)))
              obtain ⟨-, A', c', rfl, -, -, -⟩ := hqs
              clear hxx hdg hBB hEE
              simp only [List.length_nil]
              go_wp2
              go_roundw
              case rel => exact ⟨L + 1, by go_num, by omega, Lib.hid ⟨x, HD.out.1, HD.out.2.1, HD.out.2.2.1, HD.out.2.2.2⟩⟩
              case measure => simp [intOf]; omega
            · obtain ⟨p, hp⟩ : ∃ p, p = t.length := ⟨_, rfl⟩
              have hcnt := hdg.cnt
              have hlen : (t ++ [d]).length = p + 1 := by simp [hp]
              rw [hlen] at hqs hcnt
              have hp3 : p ≤ 1000 := by
                have : (k + 1) * j ≤ 3 * 100 := Nat.mul_le_mul (by omega) hn
                omega
              obtain ⟨hd, hdr⟩ := hdg.stk d (by simp)
              have hqp : Qs wr B0 u8 (p + 1) (fun i => (((t ++ [d]).getD i 0 : Nat) : Int)) := hqs
              obtain ⟨hown, A', c', rfl, hc1, hc2, hc3⟩ := hqs
              obtain ⟨g2, off, cur, rfl, hg2, hh2, hs2, hcc⟩ := hc3.resolve_left (by omega)
              have c5 : wr.cell? ⟨g2, off + p, none⟩ = some (.int .i64 d) := (cell_of_row wr g2 (off + p) cur 3 (0, 0) hh2).trans (by rw [hcc p (by omega)]; simp [hp])
              have HQ : Hid (Qs wr B0 (.slice (some ⟨g2, off, none⟩) p c') p (fun i => ((t.getD i 0 : Nat) : Int))) := Lib.hid (hqp.pop.congr fun i hi => by
                simp only [List.getD_eq_getElem?_getD]
                rw [List.getElem?_append_left (by omega)])
              obtain ⟨q, hq⟩ : ∃ q, q = p + 1 := ⟨_, rfl⟩
              rw [← hq] at hc1 ⊢
              have hq1 : (q : Int) - 1 = (p : Int) := by omega
              have hqpos : 0 < q := by omega
              have hpq : p < q := by omega
              have hpc : p ≤ c' := by omega
              have c6 := Bk.cell hxx hd
              have f6 := Bk.free hxx d
              obtain ⟨xd, hxd⟩ : ∃ z, z = x d := ⟨_, rfl⟩
              rw [← hxd] at c6
              have HX2 := Lib.hid (And.intro hxx (And.intro hdg (And.intro hBB (And.intro hEE (And.intro hxd (And.intro hdr hp))))))
              have HQQ := Lib.hid hq
              clear hxx hdg hBB hEE hxd hp hlen hcnt hown hcc hs2 hh2 hqp hdr hq hc3
              by_cases h1 : xd = -1
              · subst h1
                go_upto_region 16 with fail
                clear c5 c6 f6
                have w1 : BI (wr.setCell ⟨g, d, none⟩ (.int .i64 L)) g j (up x d L) := BI.set_ HX2.out.1 d L
                have w2 : Qs (wr.setCell ⟨g, d, none⟩ (.int .i64 L)) B0 (.slice (some ⟨g2, off, none⟩) p c') p (fun i => ((t.getD i 0 : Nat) : Int)) := HQ.out.far z1
                have w3 : B0 ≤ (wr.setCell ⟨g, d, none⟩ (.int .i64 L)).heap.size := by have := HX2.out.2.2.1; simp [World.setCell]; exact this
                have w4 : Ext W1 (wr.setCell ⟨g, d, none⟩ (.int .i64 L)) := HX2.out.2.2.2.1.sc hgW
                have w5 := HX2.out.2.1.take HX2.out.2.2.2.2.1.symm
                have w6 : (k + 1) * unv (numAt wr g) j + q = (k + 1) * unv (up x d L) j + (k + 1) + q := by
                  rw [unv_bi HX2.out.1, ← unv_up (v := (L : Int)) HX2.out.2.2.2.2.1.symm (by omega) j hd, Nat.mul_add, Nat.mul_one]
                have HY := Lib.hid (And.intro w1 (And.intro w2 (And.intro w3 (And.intro w4 (And.intro w5 w6)))))
                have HT := Lib.hid (And.intro HX2.out.2.2.2.2.2.1 HX2.out.2.2.2.2.2.2)
                clear w1 w2 w3 w4 w5 w6 HX2 HQ
                generalize wr.setCell ⟨g, d, none⟩ (.int .i64 L) = w7 at *
                go_wp2_with fail
                go_loopw [8, 57] (fun v i wx => ∃ i' : Nat, i = .int .i64 i' ∧ i' ≤ k ∧ Hid (∃ s : List Nat, Qs wx B0 v s.length (fun i => ((s.getD i 0 : Nat) : Int)) ∧ s.length = p + i' ∧ BI wx g j (up x d L) ∧ Dg j k st L (up x d L) s d i' ∧ B0 ≤ wx.heap.size ∧ Ext W1 wx)) (fun _ i _ => k - (intOf i).toNat)
                case atStart => exact ⟨0, rfl, Nat.zero_le _, Lib.hid ⟨t, by rw [← HT.out.2]; exact HY.out.2.1, by have := HT.out.2; omega, HY.out.1, HY.out.2.2.2.2.1, HY.out.2.2.1, HY.out.2.2.2.1⟩⟩
                case round =>
                  obtain ⟨i', rfl, hi', hin⟩ := hrel
                  by_cases hik : i' < k
                  · obtain ⟨s, g1, gl, g3, g4, g5, g6⟩ := hin.out
                    obtain ⟨b9, o9, rfl, -, e9⟩ := Vl.at HS.out (HB.out.trans g6) hik
                    have HF := Lib.hid (And.intro g1 (And.intro gl (And.intro g3 (And.intro g4 (And.intro g5 g6)))))
                    clear hin g1 gl g3 g4 g5 g6
                    go_wp2_with fail
                    rw [HCF.out i' hik]
                    refine (HOP.out i' hik _ (HB.out.trans HF.out.2.2.2.2.2) d hd).mono ?_
                    clear e9
                    rintro e w8 ⟨rfl, hx⟩
                    obtain ⟨v, hv⟩ : ∃ v, v = st i' d := ⟨_, rfl⟩
                    rw [← hv]
                    obtain ⟨l, hl⟩ : ∃ l, l = s.length := ⟨_, rfl⟩
                    have hvj : v < j := by rw [hv]; exact HST.out i' hik d hd
                    have hl3 : l ≤ 1100 := by have := HF.out.2.1; omega
                    have r1 := HF.out.1
                    rw [← hl] at r1
                    have r2 := HF.out.2.2.2.1.push HST.out hd (up_self x d (L : Int)) HT.out.1 hik
                    rw [← hv] at r2
                    have HG := Lib.hid (And.intro (r1.ext hx) (And.intro (HF.out.2.2.1.ext hx) (And.intro r2 (And.intro (HF.out.2.2.2.2.2.trans hx) (Nat.le_trans HF.out.2.2.2.2.1 hx.size)))))
                    have HL := Lib.hid (And.intro hl (And.intro HF.out.2.1 hv))
                    have hB8 : B0 ≤ w8.heap.size := HG.out.2.2.2.2
                    clear r1 r2 hx HF hl hv
                    obtain ⟨i0, hi, hz0, hz1, hz2⟩ := info_parts info3
                    go_wp2_with (at_builtin; refine wpList_append_q rfl _ _ 22 rfl i0 Tryz.underlying22 hi hz0 hz1 hz2 B0 _ l (fun i => ((s.getD i 0 : Nat) : Int)) rfl ?qs ?base ⟨w8.heap.size, 0, none⟩ 1 v rfl ?cell ?n ?_)
                    case qs => exact HG.out.1.ext (Ext.alc (Ext.refl _) _)
                    case base => simp; omega
                    case cell => rw [World.cell?_alloc_new]; rfl
                    case n => omega
                    intro v' w9 hq4 hgr
                    have o1 : (u8).ownBlock ≠ some g := fun c => by have := (HG.out.1.1 g c).1; omega
                    have z3 := hgr.bi (HG.out.2.1.ext (Ext.alc (Ext.refl _) _)) o1
                    have z4 := hgr.ext (HG.out.2.2.2.1.alc _) (fun b hb => by have := (HG.out.1.1 b hb).1; have h9 := HG.out.2.2.2.1.size; omega)
                    have z5 : B0 ≤ w9.heap.size := by have := hgr.by_.size; simp at this; omega
                    have HH := Lib.hid (And.intro hq4 (And.intro z3 (And.intro HG.out.2.2.1 (And.intro z5 z4))))
                    clear hq4 hgr z3 z4 z5 o1
                    go_wp2
                    go_roundw
                    case rel =>
                      refine ⟨i' + 1, by go_num, by omega, Lib.hid ⟨s ++ [v], ?_, ?_, HH.out.2.1, HH.out.2.2.1, HH.out.2.2.2.1, HH.out.2.2.2.2⟩⟩
                      · rw [List.length_append, ← HL.out.1]
                        refine HH.out.1.congr fun i hi => ?_
                        by_cases e : i = l
                        · subst e; rw [up_self, HL.out.1]; simp
                        · rw [up_ne _ _ e]; simp only [List.getD_eq_getElem?_getD]; rw [List.getElem?_append_left (by rw [← HL.out.1]; omega)]
                      · rw [List.length_append, HL.out.2.1]; simp; omega
                    case measure => simp [intOf]; omega
                  · obtain rfl : i' = k := by omega
                    obtain ⟨s, g1, g2', g3, g4, g5, g6⟩ := hin.out
                    have HF := Lib.hid (And.intro g1 (And.intro g2' (And.intro g3 (And.intro (g4.rest 0) (And.intro g5 g6)))))
                    clear hin g1 g2' g3 g4 g5 g6
                    go_wp2
                    go_roundw
                    case rel => exact Lib.hid ⟨s, up x d L, HF.out.1, HF.out.2.2.1, HF.out.2.2.2.1, HF.out.2.2.2.2.1, HF.out.2.2.2.2.2⟩
                    case measure =>
                      have h1 := HY.out.2.2.2.2.2
                      have h2 := unv_bi HF.out.2.2.1
                      obtain ⟨-, A9, c9, rfl, -⟩ := HF.out.1
                      have h3 := HF.out.2.1
                      have h4 := HQQ.out
                      simp only [lenOf]
                      rw [h2, h1, h3]
                      omega
              · have hbe : (xd == -1) = false := by simp; exact h1
                have HSK : Hid (Dg j k st L x t 0 k) := Lib.hid (HX2.out.2.1.skip (by rw [← HX2.out.2.2.2.2.1]; exact h1))
                clear f6
                go_wp2
                go_roundw
                case rel => exact Lib.hid ⟨t, x, by rw [← HX2.out.2.2.2.2.2.2]; exact HQ.out, HX2.out.1, HSK.out, HX2.out.2.2.1, HX2.out.2.2.2.1⟩
                case measure => simp only [lenOf]; omega
        · obtain rfl : L = j := by omega
          obtain ⟨x, hx, hdn, hB, hE⟩ := hin.out
          obtain ⟨m, hm, hxm⟩ := hdn.done
          have HM : Hid (BI wr g L (fun d => ((m d : Nat) : Int)) ∧ Nm L k st m ∧ Ext W wr) := Lib.hid ⟨Bk.congr hx (fun d hd => by dsimp only; rw [hxm d hd]), hm, HB.out.trans hE⟩
          clear hin hx hdn hB hE hm hxm
          go_wp2
          go_ret
          exact ⟨m, g, rfl, hgW0, HM.out.1, HM.out.2.1, HM.out.2.2⟩
end Go.Proofs.YtijhbmdbnnmogaaGreat.G
namespace Go.Proofs.YtijhbmdbnnmogaaGreat.G
open Go.RowKit

/-- how many below r have their own name -/
def rank (m : Nat → Nat) : Nat → Nat
  | 0 => 0
  | r + 1 => rank m r + if m r = r then 1 else 0
theorem rank_le (m : Nat → Nat) : ∀ r, rank m r ≤ r
  | 0 => Nat.le_refl _
  | r + 1 => by have := rank_le m r; unfold rank; split <;> omega
theorem Nm.le_self {n k : Nat} {st : Nat → Nat → Nat} {m : Nat → Nat} (h : Nm n k st m) {d : Nat} (hd : d < n) : m d ≤ d := (h d hd).2 d (.here hd)
theorem Nm.idem {n k : Nat} {st : Nat → Nat → Nat} {m : Nat → Nat} (h : Nm n k st m) {d : Nat} (hd : d < n) : m (m d) = m d := by
  have h1 := (h d hd).1
  have h2 := h.le_self hd
  have h3 := (h (m d) (by omega)).1
  have h4 := (h d hd).2 _ (h3.trans h1)
  have h5 := h.le_self (d := m d) (by omega)
  omega
theorem set2 {w : World} {z : Nat} {t : TypeId} {y0 y1 : Value} (h : w.heap[z]? = some (.cells #[y0, y1] t (0, 0))) (x0 x1 : Value) :
    ((w.setCell ⟨z, 0, none⟩ x0).setCell ⟨z, 1, none⟩ x1).heap[z]? = some (.cells #[x0, x1] t (0, 0)) := by
  simp [World.setCell, Array.getElem?_modify, h]
theorem two {w : World} {b : Nat} {t : TypeId} {x0 x1 : Value} (h : w.heap[b]? = some (.cells #[x0, x1] t (0, 0))) : w.cell? ⟨b, 0, none⟩ = some x0 ∧ w.cell? ⟨b, 1, none⟩ = some x1 ∧ (∀ o, w.frozen? ⟨b, o, none⟩ = false) ∧ b < w.heap.size :=
  ⟨(cell_of_row w b 0 _ t (0, 0) h).trans rfl, (cell_of_row w b 1 _ t (0, 0) h).trans rfl, fun o => by simp [World.frozen?, h], (Array.getElem?_eq_some_iff.1 h).1⟩
theorem call30 : ∀ args w, (callFunc 108 args).run Tryz.prog w = .ok (.enter 108 args) w := by
  intro args w
  go_simp
theorem call32 : ∀ args w, (callFunc 114 args).run Tryz.prog w = .ok (.enter 114 args) w := by
  intro args w
  go_simp
theorem call33 : ∀ args w, (callFunc 115 args).run Tryz.prog w = .ok (.enter 115 args) w := by
  intro args w
  go_simp
/-- the step around a vertex -/
def tn (f : Nat → Int) (d : Nat) : Nat := (f d).toNat
theorem Mp.tn_lt {n : Nat} {f : Nat → Int} (h : Mp n f) {d : Nat} (hd : d < n) : tn f d < n := by have := h.zero d hd; have := h.lt d hd; unfold tn; omega
theorem Mp.tn_eq {n : Nat} {f : Nat → Int} (h : Mp n f) {d : Nat} (hd : d < n) : ((tn f d : Nat) : Int) = f d := by have := h.zero d hd; unfold tn; omega

/-- names with one step around the vertices -/
theorem names_turn (n : Nat) (f : Nat → Int) (NV : Value) (b : Nat) (W : World) (hN : Il W NV n f) (hM : Mp n f) (hb : W.heap[b]? = some (.cells #[.func (.func 108) #[.agg #[NV]] #[]] 145 (0, 0))) :
    Calls Tryz.prog 107 #[.agg #[NV], .slice (some ⟨b, 0, none⟩) 1 1] W fun e W' => ∃ (m : Nat → Nat) (g : Nat), e = .returned (.slice (some ⟨g, 0, none⟩) n n) ∧ W.heap.size ≤ g ∧ BI W' g n (fun d => ((m d : Nat) : Int)) ∧ Nm n 1 (fun _ => tn f) m ∧ Ext W W' := by
  obtain ⟨u0, -, ul⟩ := uno hb
  refine names_any n 1 f (fun _ => tn f) (fun _ => 108) (fun _ => #[.agg #[NV]]) NV _ W hN (by have := hM.le; omega) (by omega) ⟨_, 1, rfl, Nat.le_refl _, by omega, fun _ => ⟨b, 0, rfl, ul, fun j hj => ?_⟩⟩ (fun _ _ d hd => hM.tn_lt hd) (fun _ _ => call30) (fun _ _ X hX d hd => ?_)
  · obtain rfl : j = 0 := by omega
    exact u0
  · refine (turn_any n f NV d X (hN.ext hX) hd).mono ?_
    rintro e w ⟨rfl, h⟩
    exact ⟨by rw [hM.tn_eq hd], h⟩

set_option maxHeartbeats 4000000 in
set_option maxRecDepth 100000 in
theorem graphOf_any (n : Nat) (f : Nat → Int) (NV : Value) (W : World) (hN : Il W NV n f) (hM : Mp n f) :
    Calls Tryz.prog 44 #[.agg #[NV]] W fun e W' => ∃ (m : Nat → Nat) (g : Nat), e = .returned (.agg #[.int .i64 (rank m n : Nat), .slice (some ⟨g, 0, none⟩) n n]) ∧ W.heap.size ≤ g ∧ BI W' g n (fun d => ((rank m (m d) : Nat) : Int)) ∧ Nm n 1 (fun _ => tn f) m ∧ Ext W W' := by
  have HN := Lib.hid hN; have HM := Lib.hid hM
  have hn : n ≤ 80 := hM.le
  obtain ⟨A, c, rfl, hac, hcm, -⟩ := hN
  clear hM
  have hm1 : ∀ w, (Instr.makeSlice 22 (.int .i64 (n : Int)) (.int .i64 (n : Int))).run Tryz.prog w = .ok (.slice (some ⟨w.heap.size, 0, none⟩) n n) (w.alloc (.cells (Array.ofFn fun _ : Fin n => .int .i64 0) 3)) := fun w => make_one 22 3 _ 8 Tryz.underlying22 info3 rfl (by omega) n (by omega) w
  go_enter Tryz.func44, Tryz.ntmps44
  go_upto_region 1 with fail
  have bb := al2 W (.cells #[.slice A n c] 29) (.cells #[.int .i64 0, .slice none 0 0] 72)
  have h1 : ((W.alloc (.cells #[.slice A n c] 29)).alloc (.cells #[.int .i64 0, .slice none 0 0] 72)).heap[W.heap.size]? = some (.cells #[.slice A n c] 29 (0, 0)) := (Below.heap_alloc _ _ _ (by simp)).trans (heap_alloc_new W _)
  have h2 := heap_alloc_new (W.alloc (.cells #[.slice A n c] 29)) (.cells #[.int .i64 0, .slice none 0 0] 72)
  simp only [World.size_alloc] at h2
  have hz2 : ((W.alloc (.cells #[.slice A n c] 29)).alloc (.cells #[.int .i64 0, .slice none 0 0] 72)).heap.size = W.heap.size + 1 + 1 := by simp
  generalize (W.alloc (.cells #[.slice A n c] 29)).alloc (.cells #[.int .i64 0, .slice none 0 0] 72) = W2 at *
  have HB : Hid (Ext W W2) := Lib.hid bb
  have H12 := Lib.hid (And.intro h1 h2)
  obtain ⟨m0, -, mz⟩ := uno h1
  clear bb h1 h2
  have HZ2 := Lib.hid hz2
  clear hz2
  go_upto_region 2 with fail
  have O1 : Ext W2 ((W2.alloc (.cells (Array.ofFn fun _ : Fin n => Value.int .i64 0) 3)).alloc (.cells #[.int .i64 0, .slice (some ⟨W2.heap.size, 0, none⟩) n n] 72)) := al2 W2 _ _
  have y1 : BI ((W2.alloc (.cells (Array.ofFn fun _ : Fin n => Value.int .i64 0) 3)).alloc (.cells #[.int .i64 0, .slice (some ⟨W2.heap.size, 0, none⟩) n n] 72)) W2.heap.size n (fun _ => 0) := Bk.alloc (t := 3) (n := n) (f := fun _ => Value.int .i64 0) (heap_alloc_new W2 _) _
  have y2 := heap_alloc_new (W2.alloc (.cells (Array.ofFn fun _ : Fin n => Value.int .i64 0) 3)) (.cells #[.int .i64 0, .slice (some ⟨W2.heap.size, 0, none⟩) n n] 72)
  simp only [World.size_alloc] at y2
  obtain ⟨g, hg⟩ : ∃ g, g = W2.heap.size := ⟨_, rfl⟩
  rw [← hg] at y1 y2 O1 ⊢
  have hgW : W2.heap.size ≤ g := by omega
  have hg3 : W.heap.size + 1 < g := by have := HZ2.out; omega
  obtain ⟨z, hz⟩ : ∃ z, z = g + 1 := ⟨_, rfl⟩
  rw [← hz] at y2 ⊢
  have hgz : g < z := by omega
  generalize (W2.alloc (.cells (Array.ofFn fun _ : Fin n => Value.int .i64 0) 3)).alloc (.cells #[.int .i64 0, .slice (some ⟨g, 0, none⟩) n n] 72) = W3 at *
  have hzl : z < W3.heap.size := (Array.getElem?_eq_some_iff.1 y2).1
  have HE : Hid (Ext W2 W3) := Lib.hid O1
  replace m0 := keepAt O1 mz m0
  have HY := Lib.hid (And.intro y1 y2)
  have HZ := Lib.hid hz
  clear y1 y2 O1 hg hz
  go_wp2_with fail
  obtain ⟨b, hb⟩ : ∃ b, b = W3.heap.size := ⟨_, rfl⟩
  rw [← hb]
  have h9 := heap_alloc_new W3 (.cells #[.func (.func 108) #[.agg #[.slice A n c]] #[]] 145)
  rw [← hb] at h9
  have e9 : Ext W3 (W3.alloc (.cells #[.func (.func 108) #[.agg #[.slice A n c]] #[]] 145)) := Ext.alc (Ext.refl _) _
  refine (names_turn n f (.slice A n c) b _ (HN.out.ext (HB.out.trans (HE.out.trans e9))) HM.out h9).mono ?_
  rintro e w4 ⟨m, gn, rfl, hgn, hbn, hnm, hx⟩
  have HX : Hid (Ext W3 w4) := Lib.hid (e9.trans hx)
  have HN4 := Lib.hid (And.intro hbn hnm)
  have y1 : BI w4 g n (fun _ => 0) := HY.out.1.ext HX.out
  have y2 : w4.heap[z]? = _ := (Below.block HX.out z hzl).trans HY.out.2
  have hzgn : z < gn := by simp at hgn; omega
  have HY4 := Lib.hid (And.intro y1 y2)
  clear h9 e9 hb hx hbn hnm m0 y1 y2 HY hgn
  go_wp2_with fail
  go_loopw [17] (fun i wr => ∃ d : Nat, i = .int .i64 d ∧ d ≤ n ∧ Hid (BI wr g n (fun v => if v < d then ((rank m (m v) : Nat) : Int) else 0) ∧ wr.heap[z]? = some (.cells #[.int .i64 (rank m d : Nat), .slice (some ⟨g, 0, none⟩) n n] 72 (0, 0)) ∧ BI wr gn n (fun d => ((m d : Nat) : Int)) ∧ Ext W2 wr)) (fun i _ => n - (intOf i).toNat)
  case atStart => exact ⟨0, rfl, Nat.zero_le _, Lib.hid ⟨Bk.congr HY4.out.1 (fun j _ => by simp), HY4.out.2, HN4.out.1, HE.out.trans HX.out⟩⟩
  case round =>
    clear HY4
    obtain ⟨d, rfl, hd, hin⟩ := hrel
    obtain ⟨wo, rfl⟩ : ∃ w, w = wr := ⟨_, rfl⟩
    obtain ⟨p0, p1, p2, -⟩ := two hin.out.2.1
    have HP := Lib.hid (And.intro p0 (And.intro p1 p2))
    have hzlo : z < wo.heap.size := (Array.getElem?_eq_some_iff.1 hin.out.2.1).1
    by_cases hlt : d < n
    · have c1 := Bk.cell hin.out.2.2.1 hlt
      have f1 := Bk.free hin.out.1 d
      have c4 := Bk.cell hin.out.1 hlt
      obtain ⟨md, hmd⟩ : ∃ q, q = m d := ⟨_, rfl⟩
      have hle : md ≤ d := by rw [hmd]; exact HN4.out.2.le_self hlt
      have hid : m md = md := by rw [hmd]; exact HN4.out.2.idem hlt
      dsimp only at c1
      rw [← hmd] at c1
      have HMD := Lib.hid (And.intro hmd hid)
      clear hmd hid
      by_cases hmm : md = d
      · subst hmm
        have hbe : ((md : Int) == (md : Int)) = true := by simp
        obtain ⟨r, hr⟩ : ∃ r, r = rank m md := ⟨_, rfl⟩
        have hr3 : r ≤ 80 := by have := rank_le m md; omega
        rw [← hr] at p0
        have HR := Lib.hid hr; clear hr
        have hgz2 : g ≠ z := by omega
        go_upto_region 7 with fail
        have s1 : BI (wo.setCell ⟨g, md, none⟩ (.int .i64 r)) g n (up (fun v => if v < md then ((rank m (m v) : Nat) : Int) else 0) md r) := BI.set_ hin.out.1 md r
        have s2 : (wo.setCell ⟨g, md, none⟩ (.int .i64 r)).heap[z]? = _ := (Below.heap_setCell wo ⟨g, md, none⟩ _ z (fun e => hgz2 e.symm)).trans hin.out.2.1
        have s3 : BI (wo.setCell ⟨g, md, none⟩ (.int .i64 r)) gn n (fun d => ((m d : Nat) : Int)) := Bk.far hin.out.2.2.1 (by show gn ≠ g; omega) _
        have s4 : Ext W2 (wo.setCell ⟨g, md, none⟩ (.int .i64 r)) := hin.out.2.2.2.sc hgW
        have HS := Lib.hid (And.intro s1 (And.intro s2 (And.intro s3 s4)))
        clear s1 s2 s3 s4 p0 p1 p2 c1 f1 c4 hin HP hbe
        generalize wo.setCell ⟨g, md, none⟩ (.int .i64 r) = w5 at *
        obtain ⟨p0, p1, p2, hz5⟩ := two HS.out.2.1
        rw [← HR.out] at p0
        go_wp2
        go_roundw
        case rel =>
          refine ⟨md + 1, by go_num, by omega, Lib.hid ⟨Bk.congr (Bk.far HS.out.1 (by show g ≠ z; omega) _) (fun v _ => ?_), ?_, Bk.far HS.out.2.2.1 (by show gn ≠ z; omega) _, HS.out.2.2.2.sc (by omega)⟩⟩
          · congr 1
            by_cases e : v = md
            · subst e; rw [up_self]; dsimp only; rw [if_pos (by omega), ← HMD.out.1, HR.out]
            · rw [up_ne _ _ e]
              dsimp only
              by_cases e2 : v < md
              · rw [if_pos e2, if_pos (by omega)]
              · rw [if_neg e2, if_neg (by omega)]
          · have hrk : rank m (md + 1) = r + 1 := by unfold rank; rw [if_pos HMD.out.2, HR.out]
            rw [hrk]
            simp [World.setCell, Array.getElem?_modify, HS.out.2.1]
        case measure => simp [intOf]; omega
      · have hlt2 : md < d := by omega
        have hbe : ((md : Int) == (d : Int)) = false := by simp; omega
        have c2 := Bk.cell hin.out.1 (show md < n by omega)
        dsimp only at c2
        rw [if_pos hlt2, HMD.out.2] at c2
        obtain ⟨r, hr⟩ : ∃ r, r = rank m md := ⟨_, rfl⟩
        rw [← hr] at c2
        have HR := Lib.hid hr; clear hr
        have HDR : Hid (BI wo.drew g n (fun v => if v < d then ((rank m (m v) : Nat) : Int) else 0) ∧ wo.drew.heap[z]? = some (.cells #[.int .i64 (rank m d : Nat), .slice (some ⟨g, 0, none⟩) n n] 72 (0, 0)) ∧ BI wo.drew gn n (fun d => ((m d : Nat) : Int)) ∧ Ext W2 wo.drew) := Lib.hid ⟨Bk.drew hin.out.1, hin.out.2.1, Bk.drew hin.out.2.2.1, hin.out.2.2.2.drw⟩
        go_upto_region 8 with fail
        have d1 : wo.drew.cell? ⟨z, 1, none⟩ = some (.slice (some ⟨g, 0, none⟩) n n) := p1
        have d2 : wo.drew.cell? ⟨g, md, none⟩ = some (.int .i64 r) := c2
        have d3 : wo.drew.frozen? ⟨g, d, none⟩ = false := f1
        have d4 : wo.drew.cell? ⟨g, d, none⟩ = some _ := c4
        have hmdn : md < n := by omega
        clear p0 p1 p2 c1 f1 c2 c4 hin HP hbe
        go_region
        clear d1 d2 d3 d4
        go_wp2
        go_roundw
        case rel =>
          refine ⟨d + 1, by go_num, by omega, Lib.hid ⟨Bk.congr (BI.set_ HDR.out.1 d r) (fun v _ => ?_), ?_, Bk.far HDR.out.2.2.1 (by show gn ≠ g; omega) _, HDR.out.2.2.2.sc hgW⟩⟩
          · congr 1
            by_cases e : v = d
            · subst e; rw [up_self]; dsimp only; rw [if_pos (by omega), ← HMD.out.1, HR.out]
            · rw [up_ne _ _ e]
              dsimp only
              by_cases e2 : v < d
              · rw [if_pos e2, if_pos (by omega)]
              · rw [if_neg e2, if_neg (by omega)]
          · have hrk : rank m (d + 1) = rank m d := by conv => lhs; unfold rank
                                                       rw [if_neg (by rw [← HMD.out.1]; exact hmm), Nat.add_zero]
            rw [hrk]
            exact (Below.heap_setCell wo.drew ⟨g, d, none⟩ _ z (by show z ≠ g; omega)).trans HDR.out.2.1
        case measure => simp [intOf]; omega
    · obtain rfl : d = n := by omega
      have hr2 := (Below.block hin.out.2.2.2 (W.heap.size + 1) (by have := HZ2.out; omega)).trans H12.out.2
      obtain ⟨q0, q1, q2, -⟩ := two hr2
      have HF : Hid (BI wo g d (fun v => ((rank m (m v) : Nat) : Int)) ∧ Ext W wo) := Lib.hid ⟨Bk.congr hin.out.1 (fun v hv => by dsimp only; rw [if_pos hv]), HB.out.trans hin.out.2.2.2⟩
      have HR2 := Lib.hid hr2
      clear hin HP hr2
      obtain ⟨r, hr⟩ : ∃ r, r = rank m d := ⟨_, rfl⟩
      rw [← hr] at p0
      have HR := Lib.hid hr; clear hr
      go_wp2_with fail
      have t2 := set2 HR2.out (.int .i64 r) (.slice (some ⟨g, 0, none⟩) d d)
      obtain ⟨s0, s1, -, -⟩ := two t2
      have FB : BI ((wo.setCell ⟨W.heap.size + 1, 0, none⟩ (.int .i64 r)).setCell ⟨W.heap.size + 1, 1, none⟩ (.slice (some ⟨g, 0, none⟩) d d)) g d (fun v => ((rank m (m v) : Nat) : Int)) := Bk.far (Bk.far HF.out.1 (by show g ≠ W.heap.size + 1; omega) _) (by show g ≠ W.heap.size + 1; omega) _
      have FE : Ext W ((wo.setCell ⟨W.heap.size + 1, 0, none⟩ (.int .i64 r)).setCell ⟨W.heap.size + 1, 1, none⟩ (.slice (some ⟨g, 0, none⟩) d d)) := (HF.out.2.sc (by omega)).sc (by omega)
      exact bodyPost_ret (v := .agg #[.int .i64 r, .slice (some ⟨g, 0, none⟩) d d]) (by simp [results, Tryz.results44, go_sem, s0, s1]) rfl ⟨m, g, by rw [← HR.out], by omega, FB, HN4.out.2, FE⟩
end Go.Proofs.YtijhbmdbnnmogaaGreat.G
namespace Go.Proofs.YtijhbmdbnnmogaaGreat.G
open Go.ChangeShapes Go.WideShapes Go.ChangeAt Go.RowKit Go.Joins Go.Deep

theorem own_ : ownKnob Tryz.prog.godebug = none := by kernel_rfl
theorem laidOut_ : laidOutB Tryz.prog = true := by kernel_rfl
theorem cells3 : Tryz.prog.cellsOf 3 = 1 := by kernel_rfl
theorem cells4 : Tryz.prog.cellsOf 4 = 1 := by kernel_rfl
theorem cells24 : Tryz.prog.cellsOf 24 = 1 := by kernel_rfl
theorem cells22 : Tryz.prog.cellsOf 22 = 1 := by kernel_rfl

theorem add_lit (b off j : Nat) : (⟨b, off, none⟩ : Addr).add j = ⟨b, off + j, none⟩ := by unfold Addr.add; split <;> simp_all
theorem add_none {w : World} {a : Addr} {v : Value} (h : w.cell? (a.add 0) = some v) : a.spot = none ∧ a.block < w.heap.size := by
  obtain ⟨b, off, spot⟩ := a
  have hs : spot = none := by simpa [Addr.add] using World.cell?_spot h
  have hb := World.block_lt_of_cell? w _ h
  exact ⟨hs, by simpa [Addr.add] using hb⟩

set_option maxRecDepth 1000000 in
theorem open_list_in {α : Type} [Inhabited α] (mk : α → Value) {H : Type} {enc : TypeId × Value → H} {W : World} {base : Nat} {spare : Nat → Bool} {held : Bool} {t e : TypeId} {n : Nat} {v : Value} {x : DataW H × List MemPlace}
    (ht : Tryz.prog.underlying t = some (.slice e)) (hc : Tryz.prog.cellsOf e = 1) (hmk : ∀ (n : Nat) (u : Value) (y : DataW H × List MemPlace), DataW.trod enc Tryz.prog W base spare held n e [u] = some y → ∃ z, u = mk z)
    (h : DataW.trod enc Tryz.prog W base spare held n t [v] = some x) : ∃ (n : Nat) (f : Nat → α), Vl W v n (fun j => mk (f j)) := by
  rcases open_slice1 ht hc h with ⟨hcs, -⟩ | ⟨a, len, cap, m, k, V, D, Pl, hcs, -, hl, hm, hmm, -, hx⟩
  · simp at hcs
    subst hcs
    exact ⟨0, fun _ => default, none, 0, rfl, Nat.le_refl _, by omega, fun hp => absurd hp (Nat.lt_irrefl _)⟩
  · simp at hcs
    subst hcs
    have hlm : len ≤ m := by rw [hmm]; split <;> omega
    obtain ⟨f, hf⟩ := choose_lt (α := α) (p := fun i z => V i = mk z) (fun i hi => hmk _ _ _ (hx i hi).2)
    refine ⟨len, f, some a, cap, rfl, hl, by unfold maxLen at hm; omega, fun hp => ?_⟩
    have h0 := (hx 0 (Nat.lt_of_lt_of_le hp hlm)).1
    obtain ⟨b, off, spot⟩ := a
    have hs := add_none h0
    simp at hs
    obtain ⟨rfl, hb⟩ := hs
    refine ⟨b, off, rfl, hb, fun j hj => ?_⟩
    have h1 := (hx j (Nat.lt_of_lt_of_le hj hlm)).1
    rw [add_lit] at h1
    rw [h1, hf j (Nat.lt_of_lt_of_le hj hlm)]

set_option maxRecDepth 1000000 in
theorem open_ints_in {H : Type} {enc : TypeId × Value → H} {W : World} {r : Reach} {b0 base : Nat} {spare : Nat → Bool} {held : Bool} {v : Value} {d : DataW H} {p : List MemPlace} (hv : Value.okWide Tryz.prog W r b0 22 v)
    (h : DataW.Trod enc Tryz.prog W base spare held 22 v d p) : ∃ (n : Nat) (x : Nat → Int), Il W v n x := by
  obtain ⟨A, n, c, rfl⟩ := okWide_slice Tryz.underlying22 hv
  obtain ⟨m, hm⟩ := h
  exact open_list_in (fun z => .int .i64 z) Tryz.underlying22 cells3 (fun n u y hy => by obtain ⟨z, e, -⟩ := DataW.trod_int Tryz.underlying3 hy; simp at e; exact ⟨z, e⟩) hm
theorem array1 {α : Type} {cs : Array α} (h : cs.size = 1) : ∃ c0, cs = #[c0] := by
  obtain ⟨l⟩ := cs
  match l, h with
  | [c0], _ => exact ⟨c0, rfl⟩
set_option maxRecDepth 1000000 in
theorem open_map_in {H : Type} {enc : TypeId × Value → H} {W : World} {r : Reach} {b0 base : Nat} {spare : Nat → Bool} {held : Bool} {v : Value} {d : DataW H} {p : List MemPlace} (hv : Value.okWide Tryz.prog W r b0 24 v)
    (h : DataW.Trod enc Tryz.prog W base spare held 24 v d p) : ∃ (NV : Value) (n : Nat) (f : Nat → Int), v = .agg #[NV] ∧ Il W NV n f := by
  obtain ⟨cs, rfl, hsz⟩ := okWide_struct Tryz.underlying24 hv
  obtain ⟨c0, rfl⟩ := array1 (hsz.trans cells24)
  obtain ⟨fuel, hf⟩ := h
  obtain ⟨xs, k', -, -, -, hxl, hg⟩ := DataW.trod_struct Tryz.underlying24 hf
  match xs, hxl with
  | [y0], _ =>
    have g0 := hg 0 _ rfl
    simp [cells22, Value.cells] at g0
    obtain ⟨n, x, hx⟩ := open_list_in (fun z => .int .i64 z) Tryz.underlying22 cells3 (fun n u y hy => by obtain ⟨z, e, -⟩ := DataW.trod_int Tryz.underlying3 hy; simp at e; exact ⟨z, e⟩) (show _ = some y0 from g0)
    exact ⟨c0, n, x, rfl, hx⟩
end Go.Proofs.YtijhbmdbnnmogaaGreat.G
