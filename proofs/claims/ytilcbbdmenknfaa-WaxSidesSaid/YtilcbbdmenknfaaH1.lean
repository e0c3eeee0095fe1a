/- Walks: Clone and few of a slice of numbers, areCosts. -/
import Derived.Test.YtilcbbdmenknfaaC9
import Derived.Test.YtilcbbdmenknfaaD2
import Derived.Test.YtilcbbdmenknfaaD5
import Derived.Lib.MinMax
import Derived.Lib.SliceRun
namespace Go.Proofs.Ytilcbbdmenknfaa
open Go.RowKit

/-- the list of the first k numbers -/
def nl (k : Nat) (x : Nat → Int) : List Value := (List.range k).map fun j => Value.int .i64 (x j)
theorem nl_get {k j : Nat} (x : Nat → Int) (h : j < k) : (nl k x)[j]? = some (.int .i64 (x j)) := by unfold nl; rw [List.getElem?_map, List.getElem?_range h]; rfl
theorem nl_len (k : Nat) (x : Nat → Int) : (nl k x).length = k := by simp [nl]
theorem shape_own {w : World} {base : Nat} {e : TypeId} {size n : Nat} {v : Value} {xs : List Value} (h : w.ownsRow base e size v n xs) : ∃ A c, v = .slice A n c := by
  obtain ⟨-, ⟨rfl, rfl⟩ | ⟨g, cap, cur, rfl, -⟩⟩ := h
  · exact ⟨_, _, rfl⟩
  · exact ⟨_, _, rfl⟩
theorem own_mono {w : World} {base b' : Nat} {e : TypeId} {size n : Nat} {v : Value} {xs : List Value} (h : w.ownsRow base e size v n xs) (hb : b' ≤ base) : w.ownsRow b' e size v n xs :=
  ⟨h.1, h.2.imp id fun ⟨g, cap, cur, e, hg, rest⟩ => ⟨g, cap, cur, e, Nat.le_trans hb hg, rest⟩⟩
theorem ownsRow_il {w : World} {base n : Nat} {v : Value} {x : Nat → Int} (h : w.ownsRow base 3 1 v n (nl n x)) : Il w v n x := by
  obtain ⟨h1, ⟨rfl, h2⟩ | ⟨g, cap, cur, rfl, hb, hh, h5, h6, h7, h8⟩⟩ := h
  · subst h2
    exact ⟨none, 0, rfl, Nat.le_refl _, by omega, fun h => by omega⟩
  · refine ⟨_, cap, rfl, by omega, by simp only [maxLen] at *; omega, fun hp => ⟨g, 0, rfl, (Array.getElem?_eq_some_iff.1 hh).1, fun j hj => ?_⟩⟩
    rw [Nat.zero_add, cell_of_row w g j cur 3 (0, 0) hh]
    have h11 := nl_get x hj
    rw [← h8, List.getElem?_take, if_pos (by omega)] at h11
    simpa using h11

set_option maxHeartbeats 2000000 in
set_option maxRecDepth 100000 in
theorem clone_any (n : Nat) (x : Nat → Int) (V : Value) (W : World) (hV : Il W V n x) (hn : n ≤ 1000000) :
    Calls Try.prog 85 #[V] W fun e W' => ∃ U, e = .returned U ∧ W'.ownsRow W.heap.size 3 1 U n (nl n x) ∧ Ext W W' := by
  have HV := Lib.hid hV
  obtain ⟨A, c, rfl, hc, hd, hex⟩ := hV
  obtain ⟨i0, hi, hz0, hz1, hz2⟩ := info_parts info3
  have q33 : ∀ (w : World) (a : Option Addr) (n c n' c' : Nat), (binOp .eql 33 (.slice a n c) (.slice none n' c')).run Try.prog w = .ok (.bool a.isNone) w := fun w a n c n' c' => Lib.run_eql_slice_nil w _ _ a n c n' c' Try.underlying33
  cases A with
  | none =>
    obtain rfl : n = 0 := by
      rcases Nat.eq_zero_or_pos n with h | h
      · exact h
      · obtain ⟨b, o, e, -⟩ := hex h; cases e
    clear hex
    go_enter Try.func85, Try.ntmps85
    go_wp2
    go_ret
    exact ⟨_, rfl, World.ownsRow_nil _ _ _ _, Ext.refl _⟩
  | some ad =>
    have hcell : ∀ j u, (nl n x)[j]? = some u → W.cell? (ad.add j) = some u := by
      intro j u hu
      have hj : j < n := by have := (List.getElem?_eq_some_iff.1 hu).1; rw [nl_len] at this; exact this
      obtain ⟨b, o, e, -, hcs⟩ := hex (by omega)
      cases e
      rw [nl_get x hj] at hu
      cases hu
      rw [Addr.add_lit]
      exact hcs j hj
    have HC := Lib.hid hcell
    clear hex hcell
    go_enter Try.func85, Try.ntmps85
    go_wp2_with (at_builtin; refine wpList_append_own _ rfl _ _ 33 rfl W.heap.size 3 i0 (.int .i64 0) 1 8 Try.underlying33 hi hz0 hz1 hz2 rfl (by decide) _ 0 [] rfl (World.ownsRow_lit W #[] 0 (Nat.le_refl _) (Nat.zero_le _) rfl) ad n c (nl n x) rfl ?qc1 ?qc2 ?qc3 ?qc4 ?qc5 ?qc6 ?_)
    case qc1 => rw [nl_len]; omega
    case qc2 =>
      intro j u hj
      exact Lib.cell?_alloc_some _ (HC.out j u hj)
    case qc3 => intro u hu; unfold nl at hu; obtain ⟨y, _, rfl⟩ := List.mem_map.1 hu; rfl
    case qc4 => unfold maxLen; omega
    case qc5 => omega
    case qc6 => simp
    intro v' w1 hown hgrow hnil
    clear hnil
    have hI : w1.ownsRow W.heap.size 3 1 v' n (nl n x) := by simpa using hown
    have hE : Ext W w1 := ⟨hgrow.os, hgrow.tape, hgrow.output, by have h1 := hgrow.size; simp at h1; omega, fun k hk => (hgrow.block k (by simp; omega) (fun e => by simp [Value.ownBlock] at e; omega)).trans (Below.heap_alloc _ _ k hk)⟩
    have HR := Lib.hid (And.intro hI hE)
    clear hI hE hown hgrow
    go_wp2
    go_ret
    exact ⟨v', rfl, HR.out.1, HR.out.2⟩

set_option maxHeartbeats 2000000 in
set_option maxRecDepth 100000 in
theorem few_any (n : Nat) (x : Nat → Int) (V : Value) (W : World) (hV : Il W V n x) :
    Calls Try.prog 68 #[V] W fun e W' => ∃ U, e = .returned U ∧ W'.ownsRow W.heap.size 3 1 U (min n 50) (nl (min n 50) x) ∧ Ext W W' := by
  obtain ⟨A, c, rfl, hc, hd, hex⟩ := hV
  obtain ⟨m, hm⟩ : ∃ m, m = min n 50 := ⟨_, rfl⟩
  have hmi : min (n : Int) 50 = (m : Int) := by omega
  have hml : m ≤ n := by omega
  have hmc : m ≤ c := by omega
  have hm5 : m ≤ 50 := by omega
  have hcut : Il W (.slice A m c) m x := ⟨A, c, rfl, hmc, hd, fun hp => by
    obtain ⟨b, o, e, hb, hcs⟩ := hex (by omega)
    exact ⟨b, o, e, hb, fun j hj => hcs j (by omega)⟩⟩
  have HC := Lib.hid hcut; have HM := Lib.hid hm
  clear hex hcut hm
  go_enter Try.func68, Try.ntmps68
  go_wp2_with fail
  refine (clone_any m x _ _ HC.out (by omega)).mono ?_
  rintro e w1 ⟨U, rfl, hI, hx⟩
  have HR := Lib.hid (And.intro hI hx)
  clear hI hx
  go_wp2
  go_ret
  exact ⟨U, rfl, by rw [← HM.out]; exact HR.out.1, HR.out.2⟩

/-- n costs -/
def okL (n : Nat) (x : Nat → Int) (l : Int) : Bool := decide ((n : Int) = l) && (List.range n).all fun k => bw (x k) 0 1000
theorem okL_iff {n : Nat} {x : Nat → Int} {l : Int} : okL n x l = true ↔ (n : Int) = l ∧ ∀ k, k < n → 0 ≤ x k ∧ x k ≤ 1000 := by
  unfold okL
  rw [Bool.and_eq_true, decide_eq_true_iff, List.all_eq_true]
  exact and_congr_right fun _ => ⟨fun h k hk => bw_iff.1 (h k (List.mem_range.2 hk)), fun h k hk => bw_iff.2 (h k (List.mem_range.1 hk))⟩
theorem okL_no {n : Nat} {x : Nat → Int} {l : Int} (h : ¬ ((n : Int) = l ∧ ∀ k, k < n → 0 ≤ x k ∧ x k ≤ 1000)) : okL n x l = false := by
  cases hv : okL n x l
  · rfl
  · exact absurd (okL_iff.1 hv) h

set_option maxHeartbeats 4000000 in
set_option maxRecDepth 100000 in
theorem areCosts_any (n : Nat) (x : Nat → Int) (l : Int) (V : Value) (W : World) (hV : Il W V n x) :
    Calls Try.prog 84 #[V, .int .i64 l] W fun e W' => e = .returned (.bool (okL n x l)) ∧ Ext W W' := by
  obtain ⟨r, hr⟩ : ∃ r, r = okL n x l := ⟨_, rfl⟩
  rw [← hr]
  have HR := Lib.hid hr; clear hr
  have HV := Lib.hid hV
  obtain ⟨A, c, rfl, hc, hd, -⟩ := hV
  go_enter Try.func84, Try.ntmps84
  by_cases hnl : (n : Int) = l
  · subst hnl
    go_wp2_with fail
    go_loopw [13] (fun i wr => ∃ k : Nat, i = .int .i64 k ∧ k ≤ n ∧ Hid ((∀ j, j < k → 0 ≤ x j ∧ x j ≤ 1000) ∧ Ext W wr)) (fun i _ => n - (intOf i).toNat)
    case atStart => exact ⟨0, rfl, Nat.zero_le _, Lib.hid ⟨fun j hj => by omega, Ext.refl _⟩⟩
    case round =>
      obtain ⟨k, rfl, hk, hin⟩ := hrel
      by_cases hlt : k < n
      · obtain ⟨b1, o1, rfl, -, e1⟩ := Vl.at HV.out hin.out.2 hlt
        obtain ⟨p, hp⟩ : ∃ p, p = x k := ⟨_, rfl⟩
        rw [← hp] at e1
        have HP := Lib.hid hp
        clear hp
        go_wp2_with fail
        refine (isBetween_bw _ _ _ _).mono ?_
        rintro e w1 ⟨rfl, rfl⟩
        cases h1 : bw p 0 1000
        · have hr : r = false := by
            rw [HR.out]
            refine okL_no fun h => ?_
            have h2 := h.2 k hlt
            rw [← HP.out] at h2
            rw [bw_iff.2 h2] at h1
            cases h1
          have HR2 := Lib.hid hr; clear hr h1
          go_wp2
          go_ret
          exact ⟨by rw [HR2.out]; rfl, hin.out.2⟩
        · have h2 := bw_iff.1 h1
          rw [HP.out] at h2
          have H2 := Lib.hid h2
          clear h1 h2
          go_wp2
          go_roundw
          case rel =>
            refine ⟨k + 1, by go_num, by omega, Lib.hid ⟨fun j hj => ?_, hin.out.2⟩⟩
            by_cases e : j = k
            · subst e; exact H2.out
            · exact hin.out.1 j (by omega)
          case measure => simp [intOf]; omega
      · obtain rfl : k = n := by omega
        have hr : r = true := by rw [HR.out]; exact okL_iff.2 ⟨rfl, hin.out.1⟩
        have HR2 := Lib.hid hr; clear hr
        go_wp2
        go_ret
        exact ⟨by rw [HR2.out]; rfl, hin.out.2⟩
  · have hne : ((n : Int) != l) = true := by simp; omega
    have hr : r = false := by rw [HR.out]; exact okL_no fun h => hnl h.1
    have HR2 := Lib.hid hr; clear hr
    go_wp2
    go_ret
    exact ⟨by rw [HR2.out]; rfl, Ext.refl _⟩
end Go.Proofs.Ytilcbbdmenknfaa
