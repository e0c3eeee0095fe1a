/- Walks: numbered, slices.Equal of flags. -/
import Derived.Test.YtilcbbdmenknfaaNb
import Derived.Test.YtilcbbdmenknfaaD5
import Derived.RegionTactic
import Derived.ChangeAlike
namespace Go.Proofs.Ytilcbbdmenknfaa
open Go.RowKit

theorem bits_and1 (x : Nat) (hx : x < 1000000) : bits .and .i64 (x : Int) 1 = ((x % 2 : Nat) : Int) := by
  have h1 : (BitVec.ofInt 64 (x : Int)).toNat = x := by
    rw [BitVec.ofInt_natCast, BitVec.toNat_ofNat]; exact Nat.mod_eq_of_lt (by omega)
  show IntKind.i64.wrap ((BitVec.ofInt 64 (x : Int) &&& BitVec.ofInt 64 (1 : Int)).toNat : Int) = _
  have h2 : (BitVec.ofInt 64 (1 : Int)).toNat = 1 := by decide
  rw [BitVec.toNat_and, h1, h2, Nat.and_one_is_mod]
  exact IntWalk.i64_in _ (by omega)
/-- the two lists are the same -/
def eqB (n m : Nat) (s t : Nat → Bool) : Bool := decide (n = m) && (List.range n).all fun i => s i == t i
theorem eqB_iff {n m : Nat} {s t : Nat → Bool} : eqB n m s t = true ↔ n = m ∧ ∀ i, i < n → s i = t i := by
  unfold eqB
  rw [Bool.and_eq_true, decide_eq_true_iff, List.all_eq_true]
  constructor
  · rintro ⟨h1, h2⟩; exact ⟨h1, fun i hi => by simpa using h2 i (List.mem_range.2 hi)⟩
  · rintro ⟨h1, h2⟩; exact ⟨h1, fun i hi => by simpa using h2 i (List.mem_range.1 hi)⟩
theorem eqB_no {n m : Nat} {s t : Nat → Bool} (h : ¬ (n = m ∧ ∀ i, i < n → s i = t i)) : eqB n m s t = false := by
  cases e : eqB n m s t
  · rfl
  · exact absurd (eqB_iff.1 e) h

set_option maxHeartbeats 4000000 in
set_option maxRecDepth 100000 in
theorem numbered_any (N k : Nat) (W : World) (hN : 2 ≤ N) (hN2 : N ≤ 12) (hk : k < 2 ^ (N - 2)) :
    Calls Try.prog 61 #[.int .i64 N, .int .i64 k] W fun e W' => ∃ g, e = .returned (.slice (some ⟨g, 0, none⟩) N N) ∧ W.heap.size ≤ g ∧ BB W' g N (numb N k) ∧ Ext W W' := by
  have hm1 : ∀ w, (Instr.makeSlice 40 (.int .i64 (N : Int)) (.int .i64 (N : Int))).run Try.prog w = .ok (.slice (some ⟨w.heap.size, 0, none⟩) N N) (w.alloc (.cells (Array.ofFn fun _ : Fin N => .bool false) 4)) := fun w => make_one 40 4 _ 1 Try.underlying40 info4 rfl (by omega) N (by omega) w
  have hk2 : k < 1024 := Nat.lt_of_lt_of_le hk (Nat.le_trans (Nat.pow_le_pow_right (by omega) (show N - 2 ≤ 10 by omega)) (by decide))
  have HK := Lib.hid hk; clear hk
  go_enter Try.func61, Try.ntmps61
  go_upto_region 2 with fail
  have bb := al1 W (.cells (Array.ofFn fun _ : Fin N => Value.bool false) 4)
  have hb : BB (W.alloc (.cells (Array.ofFn fun _ : Fin N => Value.bool false) 4)) W.heap.size N (fun _ => false) := heap_alloc_new W _
  generalize W.alloc (.cells (Array.ofFn fun _ : Fin N => Value.bool false) 4) = W1 at *
  have HX : Hid (Ext W W1) := Lib.hid bb
  have c0 := Bk.cell hb (show 0 < N by omega)
  have f0 := Bk.free hb 0
  have y := BB.set_ hb 0 true
  have HY := Lib.hid (And.intro y (Ext.sc bb (Nat.le_refl W.heap.size) (i := 0) (v := .bool true)))
  have h0N : (0 : Int) < N := by omega
  clear hb bb y
  go_wp2_with fail
  clear c0 f0
  go_loopw [6] (fun i wr => ∃ v : Nat, i = .int .i64 v ∧ 1 ≤ v ∧ v ≤ N - 1 ∧ Hid (BB wr W.heap.size N (fun u => if u < v then numb N k u else false) ∧ Ext W wr)) (fun i _ => N - (intOf i).toNat)
  case atStart =>
    refine ⟨1, rfl, Nat.le_refl _, by omega, Lib.hid ⟨Bk.congr HY.out.1 (fun j hj => ?_), HY.out.2⟩⟩
    congr 1
    by_cases e : j = 0
    · subst e; rw [up_self]; dsimp only; rw [if_pos (by omega), numb_zero]
    · rw [up_ne _ _ e]; dsimp only; rw [if_neg (by omega)]
  case round =>
    obtain ⟨v, rfl, hv1, hv2, hin⟩ := hrel
    by_cases hlt : v < N - 1
    · have hlt2 : (v : Int) < (N : Int) - 1 := by omega
      have cv := Bk.cell hin.out.1 (show v < N by omega)
      have fv := Bk.free hin.out.1 v
      obtain ⟨sh, hsh⟩ : ∃ sh : Nat, sh = N - 2 - v := ⟨_, rfl⟩
      have hsub : (N : Int) - 2 - v = sh := by omega
      have hsh2 : sh ≤ 10 := by omega
      have hvN : v < N := by omega
      have HS := Lib.hid hsh
      clear hsh
      obtain ⟨q, hq⟩ : ∃ q, q = decide (k / 2 ^ sh % 2 = 1) := ⟨_, rfl⟩
      have hbit : (bits BinOp.and IntKind.i64 ((k : Int) / 2 ^ sh) 1 == 1) = q := by
        have h1 : ((k : Int) / 2 ^ sh) = ((k / 2 ^ sh : Nat) : Int) := by rw [Int.natCast_ediv, Int.natCast_pow]; rfl
        have h2 : k / 2 ^ sh < 1000000 := Nat.lt_of_le_of_lt (Nat.div_le_self _ _) (by omega)
        rw [h1, bits_and1 _ h2, hq]
        exact Bool.eq_iff_iff.2 (by simp; omega)
      have HQ := Lib.hid hq; have HBIT := Lib.hid hbit
      have y := BB.set_ hin.out.1 v q
      have Y := Lib.hid y
      clear hq hbit y
      go_wp2
      rw [HBIT.out]
      go_roundw
      case rel =>
        refine ⟨v + 1, by go_num, by omega, by omega, Lib.hid ⟨Bk.congr Y.out (fun j hj => ?_), hin.out.2.sc (Nat.le_refl _)⟩⟩
        congr 1
        by_cases e : j = v
        · subst e; rw [up_self]; dsimp only; rw [if_pos (by omega), numb_mid k hv1 hlt, HQ.out, HS.out]
        · rw [up_ne _ _ e]; dsimp only
          by_cases e2 : j < v
          · rw [if_pos e2, if_pos (by omega)]
          · rw [if_neg e2, if_neg (by omega)]
      case measure => simp [intOf]; omega
    · obtain rfl : v = N - 1 := by omega
      have hlt2 : ¬ ((N - 1 : Nat) : Int) < (N : Int) - 1 := by omega
      go_wp2
      go_ret
      refine ⟨W.heap.size, rfl, Nat.le_refl _, Bk.congr hin.out.1 (fun j hj => ?_), hin.out.2⟩
      congr 1
      dsimp only
      by_cases e : j < N - 1
      · rw [if_pos e]
      · rw [if_neg e, show j = N - 1 by omega, numb_last k hN]

set_option maxHeartbeats 4000000 in
set_option maxRecDepth 100000 in
theorem equalB_any (n m : Nat) (s t : Nat → Bool) (U V : Value) (W : World) (hU : Bl W U n s) (hV : Bl W V m t) (hn : n ≤ 1000) :
    Calls Try.prog 25 #[U, V] W fun e W' => e = .returned (.bool (eqB n m s t)) ∧ Ext W W' := by
  obtain ⟨r, hr⟩ : ∃ r, r = eqB n m s t := ⟨_, rfl⟩
  rw [← hr]
  have HR := Lib.hid hr; clear hr
  have HU := Lib.hid hU; have HV := Lib.hid hV
  obtain ⟨A1, c1, rfl, hc1, hd1, -⟩ := hU
  obtain ⟨A2, c2, rfl, hc2, hd2, -⟩ := hV
  go_enter Try.func25, Try.ntmps25
  by_cases hnm : n = m
  · subst hnm
    go_wp2_with fail
    go_loopw [13] (fun i wr => ∃ k : Nat, i = .int .i64 k ∧ k ≤ n ∧ Hid ((∀ j, j < k → s j = t j) ∧ Ext W wr)) (fun i _ => n - (intOf i).toNat)
    case atStart => exact ⟨0, rfl, Nat.zero_le _, Lib.hid ⟨fun j hj => by omega, Ext.refl _⟩⟩
    case round =>
      obtain ⟨k, rfl, hk, hin⟩ := hrel
      by_cases hlt : k < n
      · obtain ⟨b1, o1, rfl, -, e1⟩ := Vl.at HU.out hin.out.2 hlt
        obtain ⟨b2, o2, rfl, -, e2⟩ := Vl.at HV.out hin.out.2 hlt
        go_upto_region 6 with fail
        obtain ⟨p, hp⟩ : ∃ p, p = s k := ⟨_, rfl⟩
        obtain ⟨q, hq⟩ : ∃ q, q = t k := ⟨_, rfl⟩
        rw [← hp] at e1; rw [← hq] at e2
        have HP := Lib.hid (And.intro hp hq)
        clear hp hq
        have e1d : wr.drew.cell? ⟨b1, o1 + k, none⟩ = some (.bool p) := e1
        have e2d : wr.drew.cell? ⟨b2, o2 + k, none⟩ = some (.bool q) := e2
        clear e1 e2
        by_cases hpq : p = q
        · subst hpq
          have hne : (p != p) = false := by cases p <;> rfl
          go_region
          go_wp2
          go_roundw
          case rel =>
            refine ⟨k + 1, by go_num, by omega, Lib.hid ⟨fun j hj => ?_, hin.out.2.drw⟩⟩
            by_cases e : j = k
            · subst e; rw [← HP.out.1, ← HP.out.2]
            · exact hin.out.1 j (by omega)
          case measure => simp [intOf]; omega
        · have hne : (!(p == q)) = true := by cases p <;> cases q <;> simp_all
          have hr : r = false := by rw [HR.out]; exact eqB_no (fun h => hpq (by rw [HP.out.1, HP.out.2]; exact h.2 k hlt))
          have HR2 := Lib.hid hr; clear hr
          go_region
          go_wp2
          go_ret
          exact ⟨by rw [HR2.out]; rfl, hin.out.2.drw⟩
      · obtain rfl : k = n := by omega
        have hr : r = true := by rw [HR.out]; exact eqB_iff.2 ⟨rfl, hin.out.1⟩
        have HR2 := Lib.hid hr; clear hr
        go_wp2
        go_ret
        exact ⟨by rw [HR2.out]; rfl, hin.out.2⟩
  · have hne : ((n : Int) != m) = true := by simp; omega
    have hr : r = false := by rw [HR.out]; exact eqB_no (fun h => hnm h.1)
    have HR2 := Lib.hid hr; clear hr
    go_wp2
    go_ret
    exact ⟨by rw [HR2.out]; rfl, Ext.refl _⟩
end Go.Proofs.Ytilcbbdmenknfaa
