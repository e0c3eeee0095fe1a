/- Walks: the moves of a size as an iterator. -/
import Derived.Test.YtgjanbgehbpciaaD2
import Derived.RangeFuncNested
import Derived.RangeFuncBound
import Derived.RangeFuncCalls
import Derived.RangeFuncLeaves
import Derived.Shelf.Abstract
import Derived.Shelf.RegionOpen
import Derived.WalkKit
import Derived.OwnWalkIn
import Derived.TacticsInMore
import Derived.LoopNIn
import Derived.LoopIn
namespace Go.Proofs.Ytgjanbgehbpciaa
open Go.RowKit Go.Shelf
attribute [local go_sem] Oper.semAt_some

set_option maxRecDepth 100000 in
theorem numbers_any' (w h : Nat) (W : World) (hw : w ≤ 8) (hh : h ≤ 8) : Calls Try.prog 84 #[.agg #[.int .i64 w, .int .i64 h]] W fun e W' => e = .returned (.int .i64 (pos w h 2 0 0 0 : Nat)) ∧ Ext W W' := numbers_any w h W (by omega) (by omega)

theorem Ext.grown {X Y : World} (h : Ext X Y) : X.grownBy Y none := ⟨h.os, h.tape, h.output, h.size, fun k hk _ => h.block k hk⟩
theorem abides_ext {β : Type} {B : Nat} {J : β → World → Prop} (hJ : AbidesFrom B J) {s : β} {X Y : World} (hs : J s X) (e : Ext X Y) : J s Y := hJ s X Y none hs e.grown (fun r e => by cases e)

theorem q4_new' (W : World) (a b c d : Value) (t : TypeId) : Q4 (W.alloc (.cells #[a, b, c, d] t)) W.heap.size a b c d := by
  refine ⟨?_, ?_, ?_, ?_⟩ <;> (rw [World.cell?_alloc_new]; rfl)
/-- a move as a value -/
def mvV (m : Mv) : Value := .agg #[.int .i64 m.dx, .int .i64 m.dy, .int .i64 m.t, .bool m.f]

set_option maxHeartbeats 4000000 in
set_option maxRecDepth 100000 in
theorem moves1_in (n w h : Nat) (hn : 1 ≤ n) (hs : okSize w h = true) (l Bz n₀ NN : Nat) (hNNe : NN = pos w h 2 0 0 0) (J Jx : List Mv → World → Prop) (B : Nat) (hJ : AbidesFrom B J)
    (hY : ∀ pre x W, J pre W → pre.length < NN → YieldAt Fence.wide (n - 1) Try.prog l #[mvV x] W fun e W' => (e = .returned (.bool true) ∧ J (pre ++ [x]) W' ∧ Below n₀ W W') ∨ (e = .returned (.bool false) ∧ Jx (pre ++ [x]) W'))
    (W : World) (hBz : Bz < n₀) (hz : C2 W Bz (.int .i64 w) (.int .i64 h)) (hle : n₀ ≤ W.heap.size) (h0 : J [] W) :
    CallsIn Fence.wide n Try.prog 83 #[.func (.yield l) #[] #[], .pointer (some ⟨Bz, 0, none⟩)] W fun e W' => (∃ v, e = .returned v) ∧ ((∃ xs, xs = mvs w h NN ∧ J xs W') ∨ (∃ pre, True ∧ Jx pre W')) := by
  have hs' := okSize_iff.1 hs
  have hNN := pos2_bd (w := w) (h := h) (by omega) (by omega)
  rw [← hNNe] at hNN
  have hnu : ∀ X, Calls Try.prog 84 #[.agg #[.int .i64 w, .int .i64 h]] X fun e W' => e = .returned (.int .i64 (NN : Nat)) ∧ Ext X W' := fun X => by rw [hNNe]; exact numbers_any w h X (by omega) (by omega)
  have hnd : ∀ n X, n < NN → Calls Try.prog 85 #[.agg #[.int .i64 w, .int .i64 h], .int .i64 (n : Nat)] X fun e W' => e = .returned (.agg #[.int .i64 (dec w h n).dx, .int .i64 (dec w h n).dy, .int .i64 (dec w h n).t, .bool (dec w h n).f]) ∧ Ext X W' := by
    rw [hNNe]; exact fun n X hn => numbered_any w h n X hs hn
  have HNU := Lib.hid hnu; have HND := Lib.hid hnd; have HJ := Lib.hid hJ; have HY := Lib.hid hY; have HS := Lib.hid hs; have HZ := Lib.hid hz; have H0 := Lib.hid h0; have HNNE := Lib.hid hNNe
  clear hnu hnd hJ hY hs hs' h0 hNNe
  obtain ⟨z0, z1⟩ := hz
  refine callsIn_of_wp Try.func83 rfl trivial ?_ rfl
  simp only [Try.ntmps83, List.size_toArray, List.length_cons, List.length_nil, Nat.reduceAdd, Nat.reduceSub, Array.replicate_succ, Array.replicate_zero, List.push_toArray, List.append_toArray, List.nil_append, List.cons_append]
  gi_wp2
  refine ⟨trivial, ?_⟩
  refine (callsIn_wide.2 (HNU.out _)).mono ?_
  rintro e V ⟨rfl, hx⟩
  have HV := Lib.hid hx; have HJ0 := Lib.hid (abides_ext HJ.out H0.out hx); clear hx z0 z1
  gi_wp2
  gi_loopw [7] (fun p wr => ∃ k : Nat, p = .int .i64 k ∧ k ≤ NN ∧ J (mvs w h k) wr ∧ Below n₀ W wr) (fun p _ => NN - (intOf p).toNat)
  case atStart => exact ⟨0, rfl, by omega, HJ0.out, HV.out.mono hle⟩
  case round =>
    clear HJ0 HV H0
    obtain ⟨k, rfl, hk, hj, hb⟩ := hrel
    have HJk := Lib.hid hj; have HB := Lib.hid hb; clear hj hb
    by_cases hlt : k < NN
    · have z0 := (HB.out.cell (p := ⟨Bz, 0, none⟩) hBz).trans HZ.out.1
      have z1 := (HB.out.cell (p := ⟨Bz, 1, none⟩) hBz).trans HZ.out.2
      have hnd := fun X => HND.out k X hlt
      have hl := mvs_len w h k
      have hyes := mvs_yes (w := w) (h := h) (N := k)
      have hno := mvs_no (w := w) (h := h) (N := k)
      obtain ⟨m, hm⟩ : ∃ m, m = dec w h k := ⟨_, rfl⟩
      simp only [← hm] at hnd
      rw [← hm] at hyes hno
      have HND2 := Lib.hid hnd; have HYES := Lib.hid hyes; have HNO := Lib.hid hno; clear hnd hyes hno hm
      gi_wp2
      refine ⟨trivial, ?_⟩
      refine (callsIn_wide.2 (HND2.out _)).mono ?_
      rintro e V ⟨rfl, hx⟩
      have HV := Lib.hid (Ext.of hx); clear hx z0 z1
      have hszw : n₀ ≤ wr.heap.size := Nat.le_trans hle HB.out.size
      have hszv : n₀ ≤ V.heap.size := Nat.le_trans hszw HV.out.size
      have hbv := HB.out.trans (HV.out.mono hszw)
      have z0 := (hbv.cell (p := ⟨Bz, 0, none⟩) hBz).trans HZ.out.1
      have z1 := (hbv.cell (p := ⟨Bz, 1, none⟩) hBz).trans HZ.out.2
      have hjv := abides_ext HJ.out HJk.out HV.out
      have HBV := Lib.hid hbv; have HJV := Lib.hid hjv; clear hbv hjv
      have hBzV : Bz < V.heap.size := by omega
      cases hh : has w h m
      · have Hh := Lib.hid hh; clear hh
        gi_wp2
        refine ⟨trivial, ?_⟩
        refine (callsIn_wide.2 (has_is (b := false) Hh.out _)).mono ?_
        rintro e V2 ⟨rfl, hx⟩
        have e1 : Ext V V2 := nx ((Ext.refl V).alc _) hx
        have HV2 := Lib.hid e1; clear hx e1 z0 z1
        gi_wp2
        refine ⟨fun _ h => (by cases h), ?_⟩
        gi_wp2
        go_roundw
        case rel => exact ⟨k + 1, by go_num, by omega, by rw [HNO.out Hh.out]; exact abides_ext HJ.out HJV.out HV2.out, HBV.out.trans (HV2.out.mono hszv)⟩
        case measure => simp [intOf]; omega
      · have Hh := Lib.hid hh; clear hh
        gi_wp2
        refine ⟨trivial, ?_⟩
        refine (callsIn_wide.2 (has_is (b := true) Hh.out _)).mono ?_
        rintro e V2 ⟨rfl, hx⟩
        have e1 : Ext V V2 := nx ((Ext.refl V).alc _) hx
        have hq := q4_new' V (.int .i64 m.dx) (.int .i64 m.dy) (.int .i64 m.t) (.bool m.f) 31
        obtain ⟨t0, t1, t2, t3⟩ := hq.ext (by simp) hx
        have HV2 := Lib.hid e1; clear hx e1 z0 z1 hq
        have hj2 := abides_ext HJ.out HJV.out HV2.out
        obtain ⟨fn, tmps, assign, body, hy, hR⟩ := HY.out _ m V2 hj2 (by omega)
        unfold mvV at hy
        have HR := Lib.hid hR; clear hR hj2
        gi_wp2
        refine HR.out.mono ?_
        rintro e W3 (⟨rfl, hJ3, hk3⟩ | ⟨rfl, hJx3⟩)
        · have HJ3 := Lib.hid hJ3; have HK3 := Lib.hid hk3; clear hJ3 hk3 t0 t1 t2 t3 hy
          gi_wp2
          go_roundw
          case rel => exact ⟨k + 1, by go_num, by omega, by rw [HYES.out Hh.out]; exact HJ3.out, (HBV.out.trans (HV2.out.mono hszv)).trans HK3.out⟩
          case measure => simp [intOf]; omega
        · have HJ3 := Lib.hid hJx3; clear hJx3 t0 t1 t2 t3 hy
          gi_wp2
          refine bodyPost_ret (results_none (by kernel_rfl) _ _ _) rfl ?_
          exact ⟨⟨_, rfl⟩, .inr ⟨_, True.intro, HJ3.out⟩⟩
    · obtain rfl : k = NN := by omega
      gi_wp2
      go_end0
      exact ⟨⟨_, rfl⟩, .inl ⟨_, rfl, HJk.out⟩⟩
end Go.Proofs.Ytgjanbgehbpciaa
