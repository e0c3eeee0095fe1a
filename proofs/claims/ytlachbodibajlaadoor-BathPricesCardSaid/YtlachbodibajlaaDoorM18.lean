/- Walks: Bound of the reference. · Plans: rows that come in; areCosts. · Plans that come in; isPlan. -/
import Derived.Test.YtlachbodibajlaaDoorM17
import Derived.Test.YtlachbodibajlaaDoorM16
namespace Go.Proofs.YtlachbodibajlaaDoor
open Go.RowKit Go.Shelf

theorem mv_last (ws : List Bw.Word) (c : UInt8) : Bw.mv ws (Bw.last ws) c = Bw.last ws := by
  by_cases h : Bw.mv ws (Bw.last ws) c = Bw.last ws
  · exact h
  · have h1 := Bw.rem_lt h
    rw [(Bw.rem_last (Bw.last_lt ws)).2 rfl] at h1
    omega
/-- sound at p, the first k letters -/
def Sp (ws : List Bw.Word) (x : Nat → Int) (p k : Nat) : Prop := ∀ j, j < k → Bw.mv ws p (lt j) ≠ p → x p ≤ x (Bw.mv ws p (lt j)) + 1
theorem snd_iff (ws : List Bw.Word) (x : Nat → Int) : Snd ws x ↔ x (Bw.last ws) ≤ 0 ∧ ∀ p, p < Bw.last ws → Sp ws x p 8 := by
  have hlt := Bw.last_lt ws
  have hll : Bw.last ws = Bw.sz ws - 1 := rfl
  constructor
  · rintro ⟨h1, h2⟩
    exact ⟨h2, fun p hp j hj hm => h1 p (by omega) _ (lt_mem hj) hm⟩
  · rintro ⟨h1, h2⟩
    refine ⟨fun p hp c hc hm => ?_, h1⟩
    obtain ⟨i, hi, rfl⟩ := List.getElem_of_mem hc
    have e : Bw.letters[i] = lt i := by unfold lt; rw [List.getD_eq_getElem?_getD, List.getElem?_eq_getElem hi]; rfl
    rw [e] at hm ⊢
    by_cases hpl : p = Bw.last ws
    · exact absurd (by rw [hpl]; exact mv_last ws _) hm
    · exact h2 p (by omega) i hi hm
theorem Sp_succ {ws : List Bw.Word} {x : Nat → Int} {p k : Nat} : Sp ws x p (k + 1) ↔ Sp ws x p k ∧ (Bw.mv ws p (lt k) ≠ p → x p ≤ x (Bw.mv ws p (lt k)) + 1) := by
  constructor
  · intro h; exact ⟨fun j hj => h j (by omega), h k (by omega)⟩
  · rintro ⟨h1, h2⟩ j hj
    by_cases e : j = k
    · subst e; exact h2
    · exact h1 j (by omega)

set_option maxHeartbeats 4000000 in
set_option maxRecDepth 100000 in
theorem boundR_any (ws : List Bw.Word) (n : Nat) (x : Nat → Int) (V T : Value) (W : World) (hV : Sl W V ws) (hT : Il W T n x) (hs : Sm ws) :
    Calls Tryd.prog 26 #[V, T] W fun e W' => RetB ws n x e ∧ Ext W W' := by
  have HV := Lib.hid hV; have HT := Lib.hid hT
  obtain ⟨A, c, rfl, hac, hcm, -⟩ := hV
  obtain ⟨TA, tc, rfl, htc, htm, -⟩ := hT
  go_enter Tryd.func26, Tryd.ntmps26
  go_wp2_with fail
  refine (wordsR_any ws _ _ HV.out hs).mono ?_
  rintro e w1 ⟨rfl, hx⟩
  have HX := Lib.hid hx; clear hx
  cases hw : okWs ws
  · have HW := Lib.hid hw
    clear hw
    go_wp2
    refine bodyPost_ret (v := .tuple #[.int .i64 0, .bool false, .int .i64 2]) (by simp [results, Tryd.results26, go_sem]) rfl ?_
    exact ⟨.inl ⟨HW.out, rfl⟩, HX.out⟩
  have HW := Lib.hid hw
  obtain ⟨-, h4, h8, -⟩ := okWs_iff.1 hw
  have H4 := Lib.hid h4; have H8 := Lib.hid h8
  have hzl := Bw.sz_le ws h4 h8
  have hz1 := Bw.sz_pos ws
  have hll := Bw.last_lt ws
  have hle : (Bw.sz ws : Int) - 1 = (Bw.last ws : Nat) := by unfold Bw.last; omega
  have HLE := Lib.hid hle
  clear hw h4 h8 hs hle
  go_wp2_with fail
  refine (sizeR_any ws _ _ (HV.out.ext HX.out) H8.out H4.out).mono ?_
  rintro e w2 ⟨rfl, rfl⟩
  by_cases hn : n = Bw.sz ws
  · have hnb : ((n : Int) != (Bw.sz ws : Nat)) = false := by simp; omega
    have HNE := Lib.hid hn
    clear hn
    go_wp2_with fail
    refine (near_any n x _ _ (HT.out.ext HX.out)).mono ?_
    rintro e w3 ⟨rfl, rfl⟩
    cases hb : btw x (-1099511627776) 1099511627776 n
    · have HB := Lib.hid hb
      clear hb
      go_wp2
      refine bodyPost_ret (v := .tuple #[.int .i64 0, .bool false, .int .i64 2]) (by simp [results, Tryd.results26, go_sem]) rfl ?_
      exact ⟨.inr (.inr (.inl ⟨HW.out, HNE.out, HB.out, rfl⟩)), HX.out⟩
    · have HB := Lib.hid hb
      obtain rfl := HNE.out
      clear hb hnb
      obtain ⟨N, hN⟩ : ∃ N, N = Bw.sz ws := ⟨_, rfl⟩
      have HN := Lib.hid hN
      obtain ⟨lst, hlst⟩ : ∃ l, l = Bw.last ws := ⟨_, rfl⟩
      have HLS := Lib.hid hlst
      obtain ⟨tb, tof, rfl, htb, e1⟩ := Vl.at HT.out HX.out hz1
      obtain ⟨tb2, tof2, heq2, -, e2⟩ := Vl.at HT.out HX.out hll
      injection heq2 with heq2
      injection heq2 with h21 h22
      subst h21 h22
      rw [Nat.add_zero] at e1
      rw [← hlst] at e2 hll
      have HXB := Lib.hid (btw_iff.1 HB.out)
      have hw1 : IntKind.i64.wrap ((Bw.sz ws : Int) - 1) = (lst : Int) := by rw [HLE.out, ← hlst]; exact IntWalk.i64_in _ (by omega)
      obtain ⟨b0, hb0⟩ : ∃ b, b = decide (x lst ≤ 0) := ⟨_, rfl⟩
      have HB0 := Lib.hid hb0
      obtain ⟨xl, hxl⟩ : ∃ z, z = x lst := ⟨_, rfl⟩
      rw [← hxl] at hb0 e2
      have hb1 := hb0.symm
      clear hN hlst hb0 hxl
      go_wp2_with fail
      clear e2 hw1
      go_loopw [7, 36] (fun r i wr => ∃ (k : Nat) (b : Bool), i = .int .i64 k ∧ r = .bool b ∧ k ≤ lst ∧ Hid (b = true ↔ (x lst ≤ 0 ∧ ∀ p, p < k → Sp ws x p 8)) ∧ Hid (Ext W wr)) (fun _ i _ => lst - (intOf i).toNat)
      case atStart => exact ⟨0, _, rfl, rfl, Nat.zero_le _, Lib.hid (by rw [HB0.out, decide_eq_true_eq]; exact ⟨fun h => ⟨h, fun p hp => by omega⟩, fun h => h.1⟩), HX⟩
      case round =>
        obtain ⟨k, b, rfl, rfl, hk, hbi, hin⟩ := hrel
        by_cases hlt : k < lst
        · have hkz : k < Bw.sz ws := by omega
          go_wp2_with fail
          go_loopw [7, 39] (fun r i wr => ∃ (j : Nat) (b : Bool), i = .int .i64 j ∧ r = .bool b ∧ j ≤ 8 ∧ Hid (b = true ↔ ((x lst ≤ 0 ∧ ∀ p, p < k → Sp ws x p 8) ∧ Sp ws x k j)) ∧ Hid (Ext W wr)) (fun _ i _ => 8 - (intOf i).toNat)
          case atStart => exact ⟨0, b, rfl, rfl, by omega, Lib.hid (by rw [hbi.out]; exact ⟨fun h => ⟨h, fun j hj => by omega⟩, fun h => h.1⟩), hin⟩
          case round =>
            clear hbi hin
            obtain ⟨j, b', rfl, rfl, hj, hbi, hin⟩ := hrel
            by_cases hlt8 : j < 8
            · have hidx := letters_idx hlt8 hlt8
              have hml := Bw.mv_lt ws k (lt j) hkz
              by_cases hmv : Bw.mv ws k (lt j) = k
              · have HNX : Hid (b' = true ↔ ((x lst ≤ 0 ∧ ∀ p, p < k → Sp ws x p 8) ∧ Sp ws x k (j + 1))) := Lib.hid (by
                  rw [hbi.out, Sp_succ]
                  exact ⟨fun h => ⟨h.1, h.2, fun hm => absurd hmv hm⟩, fun h => ⟨h.1, h.2.1⟩⟩)
                clear hml
                go_wp2_with fail
                refine (movedR_any ws k (lt j) _ _ (HV.out.ext hin.out) H8.out H4.out hkz).mono ?_
                rintro e w4 ⟨rfl, rfl⟩
                rw [hmv, decide_eq_false (show ¬ (k ≠ k) from fun h => h rfl)]
                clear hmv hidx
                go_wp2_with fail
                go_region
                have hin2 : Hid (Ext W w4.drew) := Lib.hid hin.out.drw
                generalize w4.drew = w5 at *
                go_wp2
                go_roundw
                case rel => exact ⟨j + 1, b', by go_num, rfl, by omega, HNX, hin2⟩
                case measure => simp [intOf]; omega
              · have hdq : decide (Bw.mv ws k (lt j) ≠ k) = true := decide_eq_true hmv
                have hsp := Sp_succ (ws := ws) (x := x) (p := k) (k := j)
                obtain ⟨q, hq⟩ : ∃ q, q = Bw.mv ws k (lt j) := ⟨_, rfl⟩
                have HQ := Lib.hid hq
                have hmq : q ≠ k := by rw [hq]; exact hmv
                rw [← hq] at hml hsp
                have hxq := HXB.out q hml
                have hxk := HXB.out k hkz
                obtain ⟨tb3, tof3, heq3, -, t1⟩ := Vl.at HT.out hin.out hml
                injection heq3 with heq3
                injection heq3 with h31 h32
                subst h31 h32
                obtain ⟨tb4, tof4, heq4, -, t2⟩ := Vl.at HT.out hin.out hkz
                injection heq4 with heq4
                injection heq4 with h41 h42
                subst h41 h42
                obtain ⟨a1, ha1⟩ : ∃ z, z = x q := ⟨_, rfl⟩
                obtain ⟨a2, ha2⟩ : ∃ z, z = x k := ⟨_, rfl⟩
                rw [← ha1] at t1 hsp hxq
                rw [← ha2] at t2 hsp hxk
                have HSP := Lib.hid hsp; have HMQ := Lib.hid hmq
                have hw1 : IntKind.i64.wrap (a1 + 1) = a1 + 1 := IntWalk.i64_in _ (by omega)
                clear hsp hq hmq hmv ha1 ha2 hxq hxk
                go_wp2_with fail
                refine (movedR_any ws k (lt j) _ _ (HV.out.ext hin.out) H8.out H4.out hkz).mono ?_
                rintro e w4 ⟨rfl, rfl⟩
                rw [hdq, ← HQ.out]
                clear hdq hidx
                go_wp2_with fail
                by_cases hgt : a1 + 1 < a2
                · have HNX : Hid (false = true ↔ ((x lst ≤ 0 ∧ ∀ p, p < k → Sp ws x p 8) ∧ Sp ws x k (j + 1))) := Lib.hid ⟨fun h => (by cases h), fun h => by
                    have h2 := (HSP.out.1 h.2).2 HMQ.out
                    omega⟩
                  go_region
                  have hin2 : Hid (Ext W w4.drew) := Lib.hid hin.out.drw
                  generalize w4.drew = w5 at *
                  go_wp2
                  go_roundw
                  case rel => exact ⟨j + 1, false, by go_num, rfl, by omega, HNX, hin2⟩
                  case measure => simp [intOf]; omega
                · have HNX : Hid (b' = true ↔ ((x lst ≤ 0 ∧ ∀ p, p < k → Sp ws x p 8) ∧ Sp ws x k (j + 1))) := Lib.hid (by
                    rw [hbi.out, HSP.out]
                    exact ⟨fun h => ⟨h.1, h.2, fun _ => by omega⟩, fun h => ⟨h.1, h.2.1⟩⟩)
                  have hge : a2 ≤ a1 + 1 := by omega
                  clear hgt
                  go_region
                  have hin2 : Hid (Ext W w4.drew) := Lib.hid hin.out.drw
                  generalize w4.drew = w5 at *
                  go_wp2
                  go_roundw
                  case rel => exact ⟨j + 1, b', by go_num, rfl, by omega, HNX, hin2⟩
                  case measure => simp [intOf]; omega
            · obtain rfl : j = 8 := by omega
              have HNX : Hid (b' = true ↔ (x lst ≤ 0 ∧ ∀ p, p < k + 1 → Sp ws x p 8)) := Lib.hid (by
                rw [hbi.out]
                constructor
                · rintro ⟨⟨h1, h2⟩, h3⟩
                  exact ⟨h1, fun p hp => by
                    by_cases e : p = k
                    · subst e; exact h3
                    · exact h2 p (by omega)⟩
                · rintro ⟨h1, h2⟩
                  exact ⟨⟨h1, fun p hp => h2 p (by omega)⟩, h2 k (by omega)⟩)
              go_wp2
              go_roundw
              case rel => exact ⟨k + 1, b', by go_num, rfl, by omega, HNX, hin⟩
              case measure => simp [intOf]; omega
        · obtain rfl : k = lst := by omega
          obtain ⟨tb3, tof3, heq3, -, t1⟩ := Vl.at HT.out hin.out hz1
          injection heq3 with heq3
          injection heq3 with h31 h32
          subst h31 h32
          rw [Nat.add_zero] at t1
          go_wp2
          refine bodyPost_ret (v := .tuple #[.int .i64 (x 0), .bool b, .int .i64 0]) (by simp [results, Tryd.results26, go_sem]) rfl ?_
          refine ⟨.inr (.inr (.inr ⟨HW.out, rfl, HB.out, b, rfl, ?_⟩)), hin.out⟩
          rw [snd_iff, hbi.out, HLS.out]
  · have hnb : ((n : Int) != (Bw.sz ws : Nat)) = true := by simp; omega
    have HNE := Lib.hid hn
    clear hn
    go_wp2
    refine bodyPost_ret (v := .tuple #[.int .i64 0, .bool false, .int .i64 3]) (by simp [results, Tryd.results26, go_sem]) rfl ?_
    exact ⟨.inr (.inl ⟨HW.out, HNE.out, rfl⟩), HX.out⟩
end Go.Proofs.YtlachbodibajlaaDoor
namespace Go.Proofs.YtlachbodibajlaaDoor
open Go.RowKit Go.Shelf

/-- rows of numbers that come in: m rows, row i has ln i numbers -/
def Mx (W : World) (V : Value) (m : Nat) (ln : Nat → Nat) (y : Nat → Nat → Int) : Prop :=
  ∃ A k, V = .slice A m k ∧ m ≤ k ∧ k ≤ 9223372036854775807 ∧ (0 < m → ∃ b o, A = some ⟨b, o, none⟩ ∧ b < W.heap.size ∧ ∀ i, i < m → ∃ R, W.cell? ⟨b, o + i, none⟩ = some R ∧ Il W R (ln i) (y i))
theorem Mx.ext {W W' : World} {V : Value} {m : Nat} {ln : Nat → Nat} {y : Nat → Nat → Int} (h : Mx W V m ln y) (e : Ext W W') : Mx W' V m ln y := by
  obtain ⟨A, k, h1, h2, h3, h4⟩ := h
  refine ⟨A, k, h1, h2, h3, fun hn => ?_⟩
  obtain ⟨b, o, g1, g2, g3⟩ := h4 hn
  refine ⟨b, o, g1, Nat.lt_of_lt_of_le g2 e.size, fun i hi => ?_⟩
  obtain ⟨R, r1, r2⟩ := g3 i hi
  exact ⟨R, e.at g2 r1, Vl.ext r2 e⟩
theorem Mx.mt {W : World} {V : Value} {n : Nat} {ln : Nat → Nat} {y : Nat → Nat → Int} (h : Mx W V n ln y) (hl : ∀ i, i < n → ln i = n) : Mt W V n y := by
  obtain ⟨A, k, h1, h2, h3, h4⟩ := h
  refine ⟨A, k, h1, h2, h3, fun hn => ?_⟩
  obtain ⟨b, o, g1, g2, g3⟩ := h4 hn
  refine ⟨b, o, g1, g2, fun i hi => ?_⟩
  obtain ⟨R, r1, r2⟩ := g3 i hi
  exact ⟨R, r1, by rw [hl i hi] at r2; exact r2⟩
/-- a row of n costs -/
def row1 (n : Nat) (ln : Nat → Nat) (y : Nat → Nat → Int) (i : Nat) : Bool := decide (ln i = n) && btw (y i) 0 1000 (ln i)
/-- n rows of n costs -/
def costs (m n : Nat) (ln : Nat → Nat) (y : Nat → Nat → Int) : Bool := decide (m = n) && (List.range m).all (row1 n ln y)
theorem range_all_succ (f : Nat → Bool) (k : Nat) : (List.range (k + 1)).all f = ((List.range k).all f && f k) := by rw [List.range_succ, List.all_append]; simp
theorem range_all_no {f : Nat → Bool} {k n : Nat} (hk : k < n) (h : f k = false) : (List.range n).all f = false := by
  rw [List.all_eq_false]
  exact ⟨k, List.mem_range.2 hk, by simp [h]⟩

set_option maxHeartbeats 4000000 in
set_option maxRecDepth 100000 in
theorem areCosts_any (m n : Nat) (ln : Nat → Nat) (y : Nat → Nat → Int) (V : Value) (W : World) (hV : Mx W V m ln y) (hm : m ≤ 9223372036854775807) (hl : ∀ i, i < m → ln i ≤ 9223372036854775807) :
    Calls Tryd.prog 113 #[V, .int .i64 n] W fun e W' => e = .returned (.bool (costs m n ln y)) ∧ W' = W := by
  have HL := Lib.hid hl
  obtain ⟨A, k, rfl, hk, hk2, hrow⟩ := hV
  have HR := Lib.hid hrow
  clear hrow hl
  by_cases hmn : m = n
  · subst hmn
    have hco : costs m m ln y = (List.range m).all (row1 m ln y) := by unfold costs; simp
    rw [hco]
    clear hco
    go_enter Tryd.func113, Tryd.ntmps113
    go_wp2_with fail
    go_loopw [13] (fun i wr => ∃ j : Nat, i = .int .i64 j ∧ j ≤ m ∧ Hid ((List.range j).all (row1 m ln y) = true) ∧ wr = W) (fun i _ => m - (intOf i).toNat)
    case atStart => exact ⟨0, rfl, Nat.zero_le _, Lib.hid rfl, rfl⟩
    case round =>
      obtain ⟨j, rfl, hj, hall, rfl⟩ := hrel
      by_cases hlt : j < m
      · obtain ⟨b, o, rfl, zb, hrr⟩ := HR.out (by omega)
        obtain ⟨R, hR, hRl⟩ := hrr j hlt
        have HRL := Lib.hid hRl
        obtain ⟨AR, kR, rfl, hkR, hkR2, -⟩ := hRl
        have hlj := HL.out j hlt
        obtain ⟨a, ha⟩ : ∃ a, a = ln j := ⟨_, rfl⟩
        have hst := range_all_succ (row1 m ln y) j
        rw [hall.out, Bool.true_and] at hst
        have HST := Lib.hid hst
        have HA := Lib.hid ha
        rw [← ha] at hR hlj hkR HRL
        have hr1 : row1 m ln y j = (decide (a = m) && btw (y j) 0 1000 a) := by unfold row1; rw [ha]
        have HR1 := Lib.hid hr1
        clear hrr hst ha hr1
        by_cases ham : a = m
        · subst ham
          go_wp2_with fail
          refine (areBetween_any a (y j) 0 1000 _ _ HRL.out).mono ?_
          rintro e w1 ⟨rfl, rfl⟩
          cases hb : btw (y j) 0 1000 a
          · have hno : row1 a ln y j = false := by rw [HR1.out, hb]; simp
            have HNO := Lib.hid (range_all_no hlt hno)
            clear hb hno
            go_wp2
            go_ret
            exact ⟨by rw [HNO.out]; rfl, rfl⟩
          · have hyes : (List.range (j + 1)).all (row1 a ln y) = true := by rw [HST.out, HR1.out, hb]; simp
            have HYES := Lib.hid hyes
            clear hb hyes
            go_wp2
            go_roundw
            case rel => exact ⟨j + 1, by go_num, by omega, HYES, trivial⟩
            case measure => simp [intOf] <;> omega
        · have hno : row1 m ln y j = false := by rw [HR1.out, decide_eq_false ham]; rfl
          have HNO := Lib.hid (range_all_no hlt hno)
          have ham2 : ¬ ((a : Int) = (m : Int)) := by omega
          clear hno
          go_wp2
          go_ret
          exact ⟨by rw [HNO.out]; rfl, rfl⟩
      · obtain rfl : j = m := by omega
        go_wp2
        go_ret
        exact ⟨by rw [hall.out]; rfl, rfl⟩
  · have hco : costs m n ln y = false := by unfold costs; rw [decide_eq_false hmn]; rfl
    rw [hco]
    have hmn2 : ¬ ((m : Int) = (n : Int)) := by omega
    clear hco
    go_enter Tryd.func113, Tryd.ntmps113
    go_wp2
    go_ret
    exact ⟨rfl, rfl⟩
end Go.Proofs.YtlachbodibajlaaDoor
namespace Go.Proofs.YtlachbodibajlaaDoor
open Go.RowKit Go.Shelf

/-- pairs of numbers -/
def Px (W : World) (V : Value) (m : Nat) (a b : Nat → Int) : Prop :=
  ∃ A k, V = .slice A m k ∧ m ≤ k ∧ k ≤ 9223372036854775807 ∧ (0 < m → ∃ g o, A = some ⟨g, o, none⟩ ∧ g < W.heap.size ∧ ∀ i, i < m → W.cell? ⟨g, o + i * 2, none⟩ = some (.int .i64 (a i)) ∧ W.cell? ⟨g, o + i * 2 + 1, none⟩ = some (.int .i64 (b i)))
theorem Px.ext {W W' : World} {V : Value} {m : Nat} {a b : Nat → Int} (h : Px W V m a b) (e : Ext W W') : Px W' V m a b := by
  obtain ⟨A, k, h1, h2, h3, h4⟩ := h
  refine ⟨A, k, h1, h2, h3, fun hn => ?_⟩
  obtain ⟨g, o, g1, g2, g3⟩ := h4 hn
  exact ⟨g, o, g1, Nat.lt_of_lt_of_le g2 e.size, fun i hi => ⟨e.at g2 (g3 i hi).1, e.at g2 (g3 i hi).2⟩⟩
/-- a plan as a value -/
structure Pv (W : World) (S C B : Value) (n mc m : Nat) (st : Nat → Int) (ln : Nat → Nat) (y : Nat → Nat → Int) (a b : Nat → Int) : Prop where
  vs : Il W S n st
  vc : Mx W C mc ln y
  vb : Px W B m a b
  bn : n ≤ 9223372036854775807
  bc : mc ≤ 9223372036854775807
  bl : ∀ i, i < mc → ln i ≤ 9223372036854775807
  bb : m ≤ 9223372036854775807
theorem Pv.ext {W W' : World} {S C B : Value} {n mc m : Nat} {st : Nat → Int} {ln : Nat → Nat} {y : Nat → Nat → Int} {a b : Nat → Int} (h : Pv W S C B n mc m st ln y a b) (e : Ext W W') : Pv W' S C B n mc m st ln y a b :=
  ⟨Vl.ext h.vs e, h.vc.ext e, h.vb.ext e, h.bn, h.bc, h.bl, h.bb⟩
def two2 (p q : Int) (j : Nat) : Int := if j = 0 then p else q
def pr1 (n : Nat) (a b : Nat → Int) (i : Nat) : Bool := !(a i == b i) && btw (two2 (a i) (b i)) 0 ((n : Int) - 1) 2
def okPlan (n mc m : Nat) (st : Nat → Int) (ln : Nat → Nat) (y : Nat → Nat → Int) (a b : Nat → Int) : Bool :=
  decide (1 ≤ n ∧ n ≤ 10 ∧ m ≤ 40) && (btw st 0 1000 n && (costs mc n ln y && (List.range m).all (pr1 n a b)))

set_option maxHeartbeats 4000000 in
set_option maxRecDepth 100000 in
theorem isPlan_any (S C B : Value) (n mc m : Nat) (st : Nat → Int) (ln : Nat → Nat) (y : Nat → Nat → Int) (a b : Nat → Int) (W : World) (h : Pv W S C B n mc m st ln y a b) :
    Calls Tryd.prog 105 #[.agg #[S, C, B]] W fun e W' => e = .returned (.bool (okPlan n mc m st ln y a b)) ∧ Ext W W' := by
  have HV := Lib.hid h
  obtain ⟨A, k, rfl, hk, hk2, -⟩ := id h.vs
  obtain ⟨A2, k2, rfl, hk3, hk4, -⟩ := id h.vc
  obtain ⟨A3, k3, rfl, hk5, hk6, hpr⟩ := id h.vb
  have HPR := Lib.hid hpr
  have e1 : Ext W (W.alloc (.cells #[.slice A n k, .slice A2 mc k2, .slice A3 m k3] 50)) := al1 W _
  have hbk := heap_alloc_new W (.cells #[.slice A n k, .slice A2 mc k2, .slice A3 m k3] 50)
  clear h hpr
  by_cases h1 : (n : Int) < 1
  · have hno : okPlan n mc m st ln y a b = false := by unfold okPlan; rw [decide_eq_false (by omega)]; rfl
    have HNO := Lib.hid hno
    have E1 := Lib.hid e1
    clear hno hbk e1
    go_enter Tryd.func105, Tryd.ntmps105
    go_wp2
    go_ret
    exact ⟨by rw [HNO.out]; rfl, E1.out⟩
  by_cases h2 : (10 : Int) < (n : Int)
  · have hno : okPlan n mc m st ln y a b = false := by unfold okPlan; rw [decide_eq_false (by omega)]; rfl
    have HNO := Lib.hid hno
    have E1 := Lib.hid e1
    clear hno hbk e1
    go_enter Tryd.func105, Tryd.ntmps105
    go_wp2
    go_ret
    exact ⟨by rw [HNO.out]; rfl, E1.out⟩
  by_cases h3 : (40 : Int) < (m : Int)
  · have hno : okPlan n mc m st ln y a b = false := by unfold okPlan; rw [decide_eq_false (by omega)]; rfl
    have HNO := Lib.hid hno
    have E1 := Lib.hid e1
    clear hno hbk e1
    go_enter Tryd.func105, Tryd.ntmps105
    go_wp2
    go_ret
    exact ⟨by rw [HNO.out]; rfl, E1.out⟩
  have h0 : okPlan n mc m st ln y a b = (btw st 0 1000 n && (costs mc n ln y && (List.range m).all (pr1 n a b))) := by unfold okPlan; rw [decide_eq_true (by omega)]; rfl
  have H0 := Lib.hid h0
  clear h0
  go_enter Tryd.func105, Tryd.ntmps105
  go_upto_region 1 with fail
  obtain ⟨s1, hs1⟩ : ∃ s, s = W.heap.size := ⟨_, rfl⟩
  rw [← hs1] at hbk ⊢
  generalize W.alloc (.cells #[.slice A n k, .slice A2 mc k2, .slice A3 m k3] 50) = W1 at *
  obtain ⟨c0, c1, c2, z0⟩ := three_c hbk
  have E1 := Lib.hid e1
  clear hbk hs1 e1
  go_wp2_with fail
  refine (areBetween_any n st 0 1000 _ _ (Vl.ext HV.out.vs E1.out)).mono ?_
  rintro e w1 ⟨rfl, rfl⟩
  cases hb : btw st 0 1000 n
  · have hno : okPlan n mc m st ln y a b = false := by rw [H0.out, hb]; rfl
    have HNO := Lib.hid hno
    clear hno hb
    go_wp2
    go_ret
    exact ⟨by rw [HNO.out]; rfl, E1.out⟩
  have HB := Lib.hid hb
  clear hb
  go_wp2_with fail
  refine (areCosts_any mc n ln y _ _ (HV.out.vc.ext E1.out) HV.out.bc HV.out.bl).mono ?_
  rintro e w1 ⟨rfl, rfl⟩
  cases hc : costs mc n ln y
  · have hno : okPlan n mc m st ln y a b = false := by rw [H0.out, HB.out, hc]; rfl
    have HNO := Lib.hid hno
    clear hno hc
    go_wp2
    go_ret
    exact ⟨by rw [HNO.out]; rfl, E1.out⟩
  have h9 : okPlan n mc m st ln y a b = (List.range m).all (pr1 n a b) := by rw [H0.out, HB.out, hc]; simp
  have H9 := Lib.hid h9
  clear hc h9
  go_wp2_with fail
  go_loopw [5, 37] (fun _ i wr => ∃ j : Nat, i = .int .i64 j ∧ j ≤ m ∧ Hid ((List.range j).all (pr1 n a b) = true) ∧ Hid (Ext w1 wr)) (fun _ i _ => m - (intOf i).toNat)
  case atStart => exact ⟨0, rfl, Nat.zero_le _, Lib.hid rfl, Lib.hid (Ext.refl _)⟩
  case round =>
    obtain ⟨j, rfl, hj, hall, hin⟩ := hrel
    by_cases hlt : j < m
    · obtain ⟨g, o, rfl, zg, hcell⟩ := HPR.out (by omega)
      obtain ⟨q1, q2⟩ := hcell j hlt
      replace q1 := (E1.out.trans hin.out).at zg q1
      replace q2 := (E1.out.trans hin.out).at zg q2
      have zg2 := Nat.lt_of_lt_of_le zg (E1.out.trans hin.out).size
      obtain ⟨p, hp⟩ : ∃ p, p = a j := ⟨_, rfl⟩
      obtain ⟨q, hq⟩ : ∃ q, q = b j := ⟨_, rfl⟩
      rw [← hp] at q1
      rw [← hq] at q2
      have hst := range_all_succ (pr1 n a b) j
      rw [hall.out, Bool.true_and] at hst
      have hr1 : pr1 n a b j = (!(p == q) && btw (two2 p q) 0 ((n : Int) - 1) 2) := by unfold pr1; rw [hp, hq]
      rw [hr1] at hst
      have HST := Lib.hid hst
      have HR1 := Lib.hid hr1
      clear hst hr1 hcell hp hq zg
      go_upto_region 7 with fail
      have e2 : Ext wr (wr.alloc (.cells #[.int .i64 p, .int .i64 q] 60)) := al1 wr _
      have hb2 := heap_alloc_new wr (.cells #[.int .i64 p, .int .i64 q] 60)
      obtain ⟨g2, hg2⟩ : ∃ x, x = wr.heap.size := ⟨_, rfl⟩
      rw [← hg2] at hb2 ⊢
      generalize wr.alloc (.cells #[.int .i64 p, .int .i64 q] 60) = w4 at *
      obtain ⟨d0, d1, dz, -⟩ := two_c hb2
      have hil : Il w4 (.slice (some ⟨g2, 0, none⟩) 2 2) 2 (two2 p q) := by
        refine ⟨_, 2, rfl, Nat.le_refl 2, by decide, fun _ => ⟨g2, 0, rfl, dz, fun i hi => ?_⟩⟩
        rcases (show i = 0 ∨ i = 1 by omega) with rfl | rfl
        · exact d0
        · exact d1
      have hin2 : Hid (Ext w1 w4) := Lib.hid (hin.out.trans e2)
      have HIL := Lib.hid hil
      have yn : IntKind.i64.wrap ((n : Int) - 1) = (n : Int) - 1 := IntWalk.i64_in _ (by omega)
      clear e2 hb2 hg2 hil hin q1 q2 zg2
      by_cases hpq : p = q
      · have hno : pr1 n a b j = false := by rw [HR1.out, hpq]; simp
        have HNO := Lib.hid (range_all_no hlt hno)
        subst hpq
        clear hno
        go_wp2
        go_ret
        exact ⟨by rw [H9.out, HNO.out]; rfl, E1.out.trans hin2.out⟩
      · have hpq2 : (p == q) = false := by simpa using hpq
        rw [hpq2] at HST HR1
        clear hpq2
        go_wp2_with fail
        refine (areBetween_any 2 (two2 p q) 0 ((n : Int) - 1) _ _ HIL.out).mono ?_
        rintro e w5 ⟨rfl, rfl⟩
        cases hbt : btw (two2 p q) 0 ((n : Int) - 1) 2
        · have hno : pr1 n a b j = false := by rw [HR1.out, hbt]; rfl
          have HNO := Lib.hid (range_all_no hlt hno)
          clear hno hbt
          go_wp2
          go_ret
          exact ⟨by rw [H9.out, HNO.out]; rfl, E1.out.trans hin2.out⟩
        · have hyes : (List.range (j + 1)).all (pr1 n a b) = true := by rw [HST.out, hbt]; rfl
          have HYES := Lib.hid hyes
          clear hyes hbt
          go_wp2
          go_roundw
          case rel => exact ⟨j + 1, by go_num, by omega, HYES, hin2⟩
          case measure => simp [intOf] <;> omega
    · obtain rfl : j = m := by omega
      go_wp2
      go_ret
      exact ⟨by rw [H9.out, hall.out]; rfl, E1.out.trans hin.out⟩
end Go.Proofs.YtlachbodibajlaaDoor
