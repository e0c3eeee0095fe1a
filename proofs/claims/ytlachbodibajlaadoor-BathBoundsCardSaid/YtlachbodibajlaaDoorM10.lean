/- Walks: Bound of the reference. · Walks: the law BathTight. · Walks: the laws BathTables and BathBounds. -/
import Derived.Test.YtlachbodibajlaaDoorM9
import Derived.Test.YtlachbodibajlaaDoorM8
import Derived.RegionTactic
namespace Go.Proofs.YtlachbodibajlaaDoor
open Go.RowKit Go.Shelf

theorem mv_last (ws : List Bw.Word) (c : UInt8) : Bw.mv ws (Bw.last ws) c = Bw.last ws := by
  by_cases h : Bw.mv ws (Bw.last ws) c = Bw.last ws
  · exact h
  · have h1 := Bw.rem_lt h
    rw [(Bw.rem_last (Bw.last_lt ws)).2 rfl] at h1
    omega
/-- sound at p, the first k letters -/
def Sp (ws : List Bw.Word) (x : Nat → Int) (p k : Nat) : Prop := ∀ j, j < k → Bw.mv ws p (lt j) ≠ p → x p ≤ x (Bw.mv ws p (lt j)) + 1
theorem snd_iff (ws : List Bw.Word) (x : Nat → Int) : Snd ws x ↔ x (Bw.last ws) ≤ 0 ∧ ∀ p, p < Bw.last ws → Sp ws x p 8 := by
  have hlt := Bw.last_lt ws
  have hll : Bw.last ws = Bw.sz ws - 1 := rfl
  constructor
  · rintro ⟨h1, h2⟩
    exact ⟨h2, fun p hp j hj hm => h1 p (by omega) _ (lt_mem hj) hm⟩
  · rintro ⟨h1, h2⟩
    refine ⟨fun p hp c hc hm => ?_, h1⟩
    obtain ⟨i, hi, rfl⟩ := List.getElem_of_mem hc
    have e : Bw.letters[i] = lt i := by unfold lt; rw [List.getD_eq_getElem?_getD, List.getElem?_eq_getElem hi]; rfl
    rw [e] at hm ⊢
    by_cases hpl : p = Bw.last ws
    · exact absurd (by rw [hpl]; exact mv_last ws _) hm
    · exact h2 p (by omega) i hi hm
theorem Sp_succ {ws : List Bw.Word} {x : Nat → Int} {p k : Nat} : Sp ws x p (k + 1) ↔ Sp ws x p k ∧ (Bw.mv ws p (lt k) ≠ p → x p ≤ x (Bw.mv ws p (lt k)) + 1) := by
  constructor
  · intro h; exact ⟨fun j hj => h j (by omega), h k (by omega)⟩
  · rintro ⟨h1, h2⟩ j hj
    by_cases e : j = k
    · subst e; exact h2
    · exact h1 j (by omega)

set_option maxHeartbeats 4000000 in
set_option maxRecDepth 100000 in
theorem boundR_any (ws : List Bw.Word) (n : Nat) (x : Nat → Int) (V T : Value) (W : World) (hV : Sl W V ws) (hT : Il W T n x) (hs : Sm ws) :
    Calls Tryd.prog 26 #[V, T] W fun e W' => RetB ws n x e ∧ Ext W W' := by
  have HV := Lib.hid hV; have HT := Lib.hid hT
  obtain ⟨A, c, rfl, hac, hcm, -⟩ := hV
  obtain ⟨TA, tc, rfl, htc, htm, -⟩ := hT
  go_enter Tryd.func26, Tryd.ntmps26
  go_wp2_with fail
  refine (wordsR_any ws _ _ HV.out hs).mono ?_
  rintro e w1 ⟨rfl, hx⟩
  have HX := Lib.hid hx; clear hx
  cases hw : okWs ws
  · have HW := Lib.hid hw
    clear hw
    go_wp2
    refine bodyPost_ret (v := .tuple #[.int .i64 0, .bool false, .int .i64 2]) (by simp [results, Tryd.results26, go_sem]) rfl ?_
    exact ⟨.inl ⟨HW.out, rfl⟩, HX.out⟩
  have HW := Lib.hid hw
  obtain ⟨-, h4, h8, -⟩ := okWs_iff.1 hw
  have H4 := Lib.hid h4; have H8 := Lib.hid h8
  have hzl := Bw.sz_le ws h4 h8
  have hz1 := Bw.sz_pos ws
  have hll := Bw.last_lt ws
  have hle : (Bw.sz ws : Int) - 1 = (Bw.last ws : Nat) := by unfold Bw.last; omega
  have HLE := Lib.hid hle
  clear hw h4 h8 hs hle
  go_wp2_with fail
  refine (sizeR_any ws _ _ (HV.out.ext HX.out) H8.out H4.out).mono ?_
  rintro e w2 ⟨rfl, rfl⟩
  by_cases hn : n = Bw.sz ws
  · have hnb : ((n : Int) != (Bw.sz ws : Nat)) = false := by simp; omega
    have HNE := Lib.hid hn
    clear hn
    go_wp2_with fail
    refine (near_any n x _ _ (HT.out.ext HX.out)).mono ?_
    rintro e w3 ⟨rfl, rfl⟩
    cases hb : btw x (-1099511627776) 1099511627776 n
    · have HB := Lib.hid hb
      clear hb
      go_wp2
      refine bodyPost_ret (v := .tuple #[.int .i64 0, .bool false, .int .i64 2]) (by simp [results, Tryd.results26, go_sem]) rfl ?_
      exact ⟨.inr (.inr (.inl ⟨HW.out, HNE.out, HB.out, rfl⟩)), HX.out⟩
    · have HB := Lib.hid hb
      obtain rfl := HNE.out
      clear hb hnb
      obtain ⟨N, hN⟩ : ∃ N, N = Bw.sz ws := ⟨_, rfl⟩
      have HN := Lib.hid hN
      obtain ⟨lst, hlst⟩ : ∃ l, l = Bw.last ws := ⟨_, rfl⟩
      have HLS := Lib.hid hlst
      obtain ⟨tb, tof, rfl, htb, e1⟩ := Vl.at HT.out HX.out hz1
      obtain ⟨tb2, tof2, heq2, -, e2⟩ := Vl.at HT.out HX.out hll
      injection heq2 with heq2
      injection heq2 with h21 h22
      subst h21 h22
      rw [Nat.add_zero] at e1
      rw [← hlst] at e2 hll
      have HXB := Lib.hid (btw_iff.1 HB.out)
      have hw1 : IntKind.i64.wrap ((Bw.sz ws : Int) - 1) = (lst : Int) := by rw [HLE.out, ← hlst]; exact IntWalk.i64_in _ (by omega)
      obtain ⟨b0, hb0⟩ : ∃ b, b = decide (x lst ≤ 0) := ⟨_, rfl⟩
      have HB0 := Lib.hid hb0
      obtain ⟨xl, hxl⟩ : ∃ z, z = x lst := ⟨_, rfl⟩
      rw [← hxl] at hb0 e2
      have hb1 := hb0.symm
      clear hN hlst hb0 hxl
      go_wp2_with fail
      clear e2 hw1
      go_loopw [7, 36] (fun r i wr => ∃ (k : Nat) (b : Bool), i = .int .i64 k ∧ r = .bool b ∧ k ≤ lst ∧ Hid (b = true ↔ (x lst ≤ 0 ∧ ∀ p, p < k → Sp ws x p 8)) ∧ Hid (Ext W wr)) (fun _ i _ => lst - (intOf i).toNat)
      case atStart => exact ⟨0, _, rfl, rfl, Nat.zero_le _, Lib.hid (by rw [HB0.out, decide_eq_true_eq]; exact ⟨fun h => ⟨h, fun p hp => by omega⟩, fun h => h.1⟩), HX⟩
      case round =>
        obtain ⟨k, b, rfl, rfl, hk, hbi, hin⟩ := hrel
        by_cases hlt : k < lst
        · have hkz : k < Bw.sz ws := by omega
          go_wp2_with fail
          go_loopw [7, 39] (fun r i wr => ∃ (j : Nat) (b : Bool), i = .int .i64 j ∧ r = .bool b ∧ j ≤ 8 ∧ Hid (b = true ↔ ((x lst ≤ 0 ∧ ∀ p, p < k → Sp ws x p 8) ∧ Sp ws x k j)) ∧ Hid (Ext W wr)) (fun _ i _ => 8 - (intOf i).toNat)
          case atStart => exact ⟨0, b, rfl, rfl, by omega, Lib.hid (by rw [hbi.out]; exact ⟨fun h => ⟨h, fun j hj => by omega⟩, fun h => h.1⟩), hin⟩
          case round =>
            clear hbi hin
            obtain ⟨j, b', rfl, rfl, hj, hbi, hin⟩ := hrel
            by_cases hlt8 : j < 8
            · have hidx := letters_idx hlt8 hlt8
              have hml := Bw.mv_lt ws k (lt j) hkz
              by_cases hmv : Bw.mv ws k (lt j) = k
              · have HNX : Hid (b' = true ↔ ((x lst ≤ 0 ∧ ∀ p, p < k → Sp ws x p 8) ∧ Sp ws x k (j + 1))) := Lib.hid (by
                  rw [hbi.out, Sp_succ]
                  exact ⟨fun h => ⟨h.1, h.2, fun hm => absurd hmv hm⟩, fun h => ⟨h.1, h.2.1⟩⟩)
                clear hml
                go_wp2_with fail
                refine (movedR_any ws k (lt j) _ _ (HV.out.ext hin.out) H8.out H4.out hkz).mono ?_
                rintro e w4 ⟨rfl, rfl⟩
                rw [hmv, decide_eq_false (show ¬ (k ≠ k) from fun h => h rfl)]
                clear hmv hidx
                go_wp2_with fail
                go_region
                have hin2 : Hid (Ext W w4.drew) := Lib.hid hin.out.drw
                generalize w4.drew = w5 at *
                go_wp2
                go_roundw
                case rel => exact ⟨j + 1, b', by go_num, rfl, by omega, HNX, hin2⟩
                case measure => simp [intOf]; omega
              · have hdq : decide (Bw.mv ws k (lt j) ≠ k) = true := decide_eq_true hmv
                have hsp := Sp_succ (ws := ws) (x := x) (p := k) (k := j)
                obtain ⟨q, hq⟩ : ∃ q, q = Bw.mv ws k (lt j) := ⟨_, rfl⟩
                have HQ := Lib.hid hq
                have hmq : q ≠ k := by rw [hq]; exact hmv
                rw [← hq] at hml hsp
                have hxq := HXB.out q hml
                have hxk := HXB.out k hkz
                obtain ⟨tb3, tof3, heq3, -, t1⟩ := Vl.at HT.out hin.out hml
                injection heq3 with heq3
                injection heq3 with h31 h32
                subst h31 h32
                obtain ⟨tb4, tof4, heq4, -, t2⟩ := Vl.at HT.out hin.out hkz
                injection heq4 with heq4
                injection heq4 with h41 h42
                subst h41 h42
                obtain ⟨a1, ha1⟩ : ∃ z, z = x q := ⟨_, rfl⟩
                obtain ⟨a2, ha2⟩ : ∃ z, z = x k := ⟨_, rfl⟩
                rw [← ha1] at t1 hsp hxq
                rw [← ha2] at t2 hsp hxk
                have HSP := Lib.hid hsp; have HMQ := Lib.hid hmq
                have hw1 : IntKind.i64.wrap (a1 + 1) = a1 + 1 := IntWalk.i64_in _ (by omega)
                clear hsp hq hmq hmv ha1 ha2 hxq hxk
                go_wp2_with fail
                refine (movedR_any ws k (lt j) _ _ (HV.out.ext hin.out) H8.out H4.out hkz).mono ?_
                rintro e w4 ⟨rfl, rfl⟩
                rw [hdq, ← HQ.out]
                clear hdq hidx
                go_wp2_with fail
                by_cases hgt : a1 + 1 < a2
                · have HNX : Hid (false = true ↔ ((x lst ≤ 0 ∧ ∀ p, p < k → Sp ws x p 8) ∧ Sp ws x k (j + 1))) := Lib.hid ⟨fun h => (by cases h), fun h => by
                    have h2 := (HSP.out.1 h.2).2 HMQ.out
                    omega⟩
                  go_region
                  have hin2 : Hid (Ext W w4.drew) := Lib.hid hin.out.drw
                  generalize w4.drew = w5 at *
                  go_wp2
                  go_roundw
                  case rel => exact ⟨j + 1, false, by go_num, rfl, by omega, HNX, hin2⟩
                  case measure => simp [intOf]; omega
                · have HNX : Hid (b' = true ↔ ((x lst ≤ 0 ∧ ∀ p, p < k → Sp ws x p 8) ∧ Sp ws x k (j + 1))) := Lib.hid (by
                    rw [hbi.out, HSP.out]
                    exact ⟨fun h => ⟨h.1, h.2, fun _ => by omega⟩, fun h => ⟨h.1, h.2.1⟩⟩)
                  have hge : a2 ≤ a1 + 1 := by omega
                  clear hgt
                  go_region
                  have hin2 : Hid (Ext W w4.drew) := Lib.hid hin.out.drw
                  generalize w4.drew = w5 at *
                  go_wp2
                  go_roundw
                  case rel => exact ⟨j + 1, b', by go_num, rfl, by omega, HNX, hin2⟩
                  case measure => simp [intOf]; omega
            · obtain rfl : j = 8 := by omega
              have HNX : Hid (b' = true ↔ (x lst ≤ 0 ∧ ∀ p, p < k + 1 → Sp ws x p 8)) := Lib.hid (by
                rw [hbi.out]
                constructor
                · rintro ⟨⟨h1, h2⟩, h3⟩
                  exact ⟨h1, fun p hp => by
                    by_cases e : p = k
                    · subst e; exact h3
                    · exact h2 p (by omega)⟩
                · rintro ⟨h1, h2⟩
                  exact ⟨⟨h1, fun p hp => h2 p (by omega)⟩, h2 k (by omega)⟩)
              go_wp2
              go_roundw
              case rel => exact ⟨k + 1, b', by go_num, rfl, by omega, HNX, hin⟩
              case measure => simp [intOf]; omega
        · obtain rfl : k = lst := by omega
          obtain ⟨tb3, tof3, heq3, -, t1⟩ := Vl.at HT.out hin.out hz1
          injection heq3 with heq3
          injection heq3 with h31 h32
          subst h31 h32
          rw [Nat.add_zero] at t1
          go_wp2
          refine bodyPost_ret (v := .tuple #[.int .i64 (x 0), .bool b, .int .i64 0]) (by simp [results, Tryd.results26, go_sem]) rfl ?_
          refine ⟨.inr (.inr (.inr ⟨HW.out, rfl, HB.out, b, rfl, ?_⟩)), hin.out⟩
          rw [snd_iff, hbi.out, HLS.out]
  · have hnb : ((n : Int) != (Bw.sz ws : Nat)) = true := by simp; omega
    have HNE := Lib.hid hn
    clear hn
    go_wp2
    refine bodyPost_ret (v := .tuple #[.int .i64 0, .bool false, .int .i64 3]) (by simp [results, Tryd.results26, go_sem]) rfl ?_
    exact ⟨.inr (.inl ⟨HW.out, HNE.out, rfl⟩), HX.out⟩
end Go.Proofs.YtlachbodibajlaaDoor
namespace Go.Proofs.YtlachbodibajlaaDoor
open Go.RowKit Go.Shelf

theorem rest_letters {ws : List Bw.Word} (hw : Bw.okW ws) : ∀ (n p : Nat), p < Bw.sz ws → Bw.rem ws p ≤ n → ∀ c ∈ (Bw.rest ws p).1, c ∈ Bw.letters
  | n, p, hp, hn => by
    by_cases e : p = Bw.last ws
    · rw [e, Bw.rest_last]; intro c hc; cases hc
    · obtain ⟨pre, c0, post, hL, hm, h1, -, -⟩ := Bw.rest_head hw hp e
      have := Bw.rem_lt hm
      cases n with
      | zero => omega
      | succ n =>
        rw [h1]
        intro c hc
        rcases List.mem_cons.1 hc with rfl | hc
        · rw [hL]; simp
        · exact rest_letters hw n _ (Bw.mv_lt ws p c0 hp) (by omega) c hc
theorem cvB_less {ws : List Bw.Word} (hw : okWs ws = true) {s : List UInt8} (hs : s.length < (Bw.rest ws 0).1.length) (hl : ∀ c ∈ s, c ∈ Bw.letters) : cvB s ws = false := by
  obtain ⟨-, -, -, hW⟩ := okWs_iff.1 hw
  unfold cvB
  rw [Bool.and_eq_false_iff]
  right
  rw [decide_eq_false_iff_not]
  intro h
  have := Bw.rest_least hW s 0 (Bw.sz_pos ws) hl h
  omega
theorem ble_leq : ∀ {s t : List UInt8}, s.length = t.length → Bw.ble s t → (Op.bytesLess s t || s == t) = true
  | [], [], _, _ => by simp
  | a :: s, b :: t, hl, h => by
    have ih := fun h => ble_leq (s := s) (t := t) (by simpa using hl) h
    rcases h with h | ⟨rfl, h⟩
    · simp [Op.bytesLess, h]
    · have := ih h
      simp [Op.bytesLess] at this ⊢
      exact this

theorem slice_to (l : List UInt8) {k : Nat} (hk : k ≤ l.length) (W : World) : (Instr.slice 9 (.string ⟨l.toArray⟩) none (some (.int .i64 (k : Int))) none).run Tryd.prog W = .ok (.string ⟨(l.take k).toArray⟩) W := by
  have hz : (⟨l.toArray⟩ : ByteArray).size = l.length := rfl
  rw [run_slice_string_h (ht := Tryd.underlying9) (h0 := by omega) (h2 := by rw [hz]; omega), extract_bytes]
  simp
theorem slice_from (l : List UInt8) {k : Nat} (hk : k ≤ l.length) (W : World) : (Instr.slice 9 (.string ⟨l.toArray⟩) (some (.int .i64 (k : Int))) none none).run Tryd.prog W = .ok (.string ⟨(l.drop k).toArray⟩) W := by
  have hz : (⟨l.toArray⟩ : ByteArray).size = l.length := rfl
  rw [run_slice_string_l (ht := Tryd.underlying9) (h0 := by omega) (h1 := by rw [hz]; omega), extract_bytes, hz]
  have : ((k : Int)).toNat = k := by omega
  rw [this, List.take_of_length_le (by simp)]
theorem app_bytes (s t : List UInt8) : (⟨s.toArray⟩ : ByteArray) ++ ⟨t.toArray⟩ = ⟨(s ++ t).toArray⟩ := by
  apply ByteArray.ext
  simp [ByteArray.data_append]

set_option maxHeartbeats 4000000 in
set_option maxRecDepth 100000 in
theorem bathTight_walk (s : List UInt8) (ws : List Bw.Word) (V : Value) (W : World) (hV : Sl W V ws) (hs : Sm ws) (hl : s.length ≤ 9223372036854775807) :
    Calls Tryd.prog 6 #[V, .string ⟨s.toArray⟩] W fun e W' => e = .returned (.bool true) ∧ Ext W W' := by
  have c1 := fun X h => shortest_any ws V X h hs
  have c2 := fun X h => covers_any s ws V X h hs hl
  have HV := Lib.hid hV
  obtain ⟨A, c, rfl, hac, hcm, -⟩ := hV
  cases hw : okWs ws
  · have h1 : shS ws = [] := by unfold shS; rw [hw]; rfl
    have h2 : shE ws = 2 := by unfold shE; rw [hw]; rfl
    rw [h1, h2] at c1
    have C1 := Lib.hid c1
    clear c1 c2 h1 h2 hw hs hl
    go_enter Tryd.func6, Tryd.ntmps6
    go_wp2_with fail
    refine (C1.out _ HV.out).mono ?_
    rintro e w1 ⟨rfl, hx⟩
    have HX := Lib.hid hx; clear hx
    go_wp2_with fail
    refine (awake_any _).mono ?_
    rintro e w3 ⟨rfl, hx⟩
    replace HX := Lib.hid (HX.out.trans hx); clear hx
    go_wp2
    go_ret
    exact ⟨rfl, HX.out⟩
  · have h1 : shS ws = (Bw.rest ws 0).1 := by unfold shS; rw [if_pos hw]
    have h2 : shE ws = 0 := by unfold shE; rw [if_pos hw]
    obtain ⟨-, h4, h8, hW⟩ := okWs_iff.1 hw
    have hlet := rest_letters hW _ 0 (Bw.sz_pos ws) (Nat.le_refl _)
    have hlen : (Bw.rest ws 0).1.length ≤ 32 := Nat.le_trans (Bw.rest_len hW _ 0 (Bw.sz_pos ws) (Nat.le_refl _)) (Bw.rem_zero_le ws h4 h8 0)
    rw [h1, h2] at c1
    have hck : ∀ k, k < (Bw.rest ws 0).1.length → ∀ X, Sl X (.slice A ws.length c) ws → Calls Tryd.prog 15 #[.string ⟨((Bw.rest ws 0).1.take k ++ (Bw.rest ws 0).1.drop (k + 1)).toArray⟩, .slice A ws.length c] X fun e W' => e = .returned (.tuple #[.bool false, .int .i64 0]) ∧ Ext X W' := fun k hk X hX => by
      have hl2 : ((Bw.rest ws 0).1.take k ++ (Bw.rest ws 0).1.drop (k + 1)).length < (Bw.rest ws 0).1.length := by simp; omega
      have hm2 : ∀ c ∈ (Bw.rest ws 0).1.take k ++ (Bw.rest ws 0).1.drop (k + 1), c ∈ Bw.letters := fun c hc => by
        rcases List.mem_append.1 hc with h | h
        · exact hlet c (List.mem_of_mem_take h)
        · exact hlet c (List.mem_of_mem_drop h)
      have hcv := covers_any ((Bw.rest ws 0).1.take k ++ (Bw.rest ws 0).1.drop (k + 1)) ws _ X hX hs (by omega)
      have e1 := cvB_less hw hl2 hm2
      have e2 : cvE ((Bw.rest ws 0).1.take k ++ (Bw.rest ws 0).1.drop (k + 1)) ws = 0 := by
        unfold cvE okT
        rw [if_pos]
        rw [hw, decide_eq_true (by omega), okL_iff.2 hm2]; rfl
      rw [e1, e2] at hcv
      exact hcv
    have hfin : cvB s ws = true → cvE s ws = 0 → (Bw.rest ws 0).1.length ≤ s.length ∧ ((Bw.rest ws 0).1.length = s.length → (Op.bytesLess (⟨(Bw.rest ws 0).1.toArray⟩ : ByteArray).toList (⟨s.toArray⟩ : ByteArray).toList || (⟨(Bw.rest ws 0).1.toArray⟩ : ByteArray).toList == (⟨s.toArray⟩ : ByteArray).toList) = true) := fun hb _ => by
      unfold cvB okT at hb
      simp only [Bool.and_eq_true, decide_eq_true_eq] at hb
      obtain ⟨⟨-, -, hsl⟩, hrun⟩ := hb
      have hsl := okL_iff.1 hsl
      refine ⟨Bw.rest_least hW s 0 (Bw.sz_pos ws) hsl hrun, fun he => ?_⟩
      have hbl := Bw.rest_first hW s 0 (Bw.sz_pos ws) hsl hrun he.symm
      have := ble_leq he hbl
      simpa [Lib.toList_data] using this
    obtain ⟨t, ht⟩ : ∃ t, t = (Bw.rest ws 0).1 := ⟨_, rfl⟩
    rw [← ht] at c1 hck hfin hlen
    have C1 := Lib.hid c1; have CK0 := Lib.hid hck; have HF := Lib.hid hfin
    generalize cvB s ws = cb at c2 HF
    generalize cvE s ws = ce at c2 HF
    have C2 := Lib.hid c2
    clear c1 c2 h1 h2 hw hs hl ht hck hfin hlet h4 h8 hW
    go_enter Tryd.func6, Tryd.ntmps6
    go_wp2_with fail
    refine (C1.out _ HV.out).mono ?_
    rintro e w1 ⟨rfl, hx⟩
    have HX := Lib.hid hx; clear hx
    go_wp2_with fail
    go_loopw [25] (fun i wr => ∃ k : Nat, i = .int .i64 k ∧ k ≤ t.length ∧ Hid (Ext W wr)) (fun i _ => t.length - (intOf i).toNat)
    case atStart => exact ⟨0, rfl, Nat.zero_le _, HX⟩
    case round =>
      clear HX
      obtain ⟨k, rfl, hk, hin⟩ := hrel
      by_cases hlt : k < t.length
      · have CK := Lib.hid (CK0.out k hlt)
        have hkl : k < t.length := hlt
        go_upto_region 7 with fail
        refine wp_region_noPanic ?_
        refine wp_region_held_drew (S := fun X => Ext wr X) (by kernel_rfl) (Ext.drw (Ext.refl _)) (fun _ => ?_)
        refine take_at 0 (some 29) (.string ⟨(t).toArray⟩) rfl rfl (by kernel_rfl) (by kernel_rfl) (by kernel_rfl) (fun _ _ _ h => h) (Or.inl ⟨by rfl, fun w' hSw => ?_⟩) (Ext.drw (Ext.refl _)) ?_
        · skip
          try clear hSw
          go_simp
          all_goals (with_reducible rfl)
        try simp only [Act.put, List.setIfInBounds_toArray, List.set_cons_zero, List.set_cons_succ]
        refine take_at 1 (some 30) (.int .i64 k) rfl rfl (by kernel_rfl) (by kernel_rfl) (by kernel_rfl) (fun _ _ _ h => h) (Or.inl ⟨by rfl, fun w' hSw => ?_⟩) (Ext.drw (Ext.refl _)) ?_
        · skip
          try clear hSw
          go_simp
          all_goals (with_reducible rfl)
        try simp only [Act.put, List.setIfInBounds_toArray, List.set_cons_zero, List.set_cons_succ]
        refine take_at 2 (some 31) (.string ⟨(t.take k).toArray⟩) rfl rfl (by kernel_rfl) (by kernel_rfl) (by kernel_rfl) (fun _ _ _ h => h) (Or.inl ⟨by rfl, fun w' hSw => ?_⟩) (Ext.drw (Ext.refl _)) ?_
        · have hx9 := fun W => slice_to t (k := k) (by omega) W
          try clear hSw
          go_simp
          all_goals (with_reducible rfl)
        try simp only [Act.put, List.setIfInBounds_toArray, List.set_cons_zero, List.set_cons_succ]
        refine take_at 3 (some 32) (.string ⟨(t).toArray⟩) rfl rfl (by kernel_rfl) (by kernel_rfl) (by kernel_rfl) (fun _ _ _ h => h) (Or.inl ⟨by rfl, fun w' hSw => ?_⟩) (Ext.drw (Ext.refl _)) ?_
        · skip
          try clear hSw
          go_simp
          all_goals (with_reducible rfl)
        try simp only [Act.put, List.setIfInBounds_toArray, List.set_cons_zero, List.set_cons_succ]
        refine take_at 4 (some 33) (.int .i64 k) rfl rfl (by kernel_rfl) (by kernel_rfl) (by kernel_rfl) (fun _ _ _ h => h) (Or.inl ⟨by rfl, fun w' hSw => ?_⟩) (Ext.drw (Ext.refl _)) ?_
        · skip
          try clear hSw
          go_simp
          all_goals (with_reducible rfl)
        try simp only [Act.put, List.setIfInBounds_toArray, List.set_cons_zero, List.set_cons_succ]
        refine take_at 5 (some 34) (.int .i64 ((k : Int) + 1)) rfl rfl (by kernel_rfl) (by kernel_rfl) (by kernel_rfl) (fun _ _ _ h => h) (Or.inl ⟨by rfl, fun w' hSw => ?_⟩) (Ext.drw (Ext.refl _)) ?_
        · skip
          try clear hSw
          go_simp
          all_goals (first | (with_reducible rfl) | exact IntWalk.i64_in _ (by omega))
        try simp only [Act.put, List.setIfInBounds_toArray, List.set_cons_zero, List.set_cons_succ]
        refine take_at 6 (some 35) (.string ⟨(t.drop (k + 1)).toArray⟩) rfl rfl (by kernel_rfl) (by kernel_rfl) (by kernel_rfl) (fun _ _ _ h => h) (Or.inl ⟨by rfl, fun w' hSw => ?_⟩) (Ext.drw (Ext.refl _)) ?_
        · have hx9 : ∀ W, (Instr.slice 9 (.string ⟨t.toArray⟩) (some (.int .i64 ((k : Int) + 1))) none none).run Tryd.prog W = .ok (.string ⟨(t.drop (k + 1)).toArray⟩) W := fun W => slice_from t (k := k + 1) (by omega) W
          try clear hSw
          go_simp
          all_goals (first | (with_reducible rfl) | omega)
        try simp only [Act.put, List.setIfInBounds_toArray, List.set_cons_zero, List.set_cons_succ]
        refine take_at 7 (some 36) (.string ⟨(t.take k ++ t.drop (k + 1)).toArray⟩) rfl rfl (by kernel_rfl) (by kernel_rfl) (by kernel_rfl) (fun _ _ _ h => h) (Or.inl ⟨by rfl, fun w' hSw => ?_⟩) (Ext.drw (Ext.refl _)) ?_
        · have hx8 := app_bytes (t.take k) (t.drop (k + 1))
          have hz8 : (t.take k).length ≤ 40 := by simp; omega
          have hz9 : (t.drop (k + 1)).length ≤ 40 := by simp; omega
          try clear hSw
          go_simp
          all_goals (first | (with_reducible rfl) | omega)
        try simp only [Act.put, List.setIfInBounds_toArray, List.set_cons_zero, List.set_cons_succ]
        refine take_at 8 (some 37) (.slice A ws.length c) rfl rfl (by kernel_rfl) (by kernel_rfl) (by kernel_rfl) (fun _ _ _ h => h) (Or.inl ⟨by rfl, fun w' hSw => ?_⟩) (Ext.drw (Ext.refl _)) ?_
        · skip
          try clear hSw
          go_simp
          all_goals (with_reducible rfl)
        try simp only [Act.put, List.setIfInBounds_toArray, List.set_cons_zero, List.set_cons_succ]
        refine wpAnyH_ready (rs := [9]) (by kernel_rfl) (by simp) ?_
        refine AllReadyH.cons rfl (fun K hK => ?_) AllReadyH.nil
        go_simp
        refine (CK.out wr.drew (HV.out.ext (hin.out.drw))).mono ?_
        rintro e v9 ⟨rfl, hb9⟩
        have e9 : Ext wr v9 := (Ext.drw (Ext.refl _)).trans hb9
        try go_wp2_with fail
        refine hK.out _ _ e9 (fun _ => ?_)
        clear hK K
        try simp only [Act.put, List.setIfInBounds_toArray, List.set_cons_zero, List.set_cons_succ]
        refine take_at 10 (some 28) (.tuple #[.bool false, .int .i64 0]) rfl rfl (by kernel_rfl) (by kernel_rfl) (by kernel_rfl) (fun _ _ _ h => h) (Or.inl ⟨by rfl, fun w' hSw => ?_⟩) (e9) ?_
        · skip
          try clear hSw
          go_simp
          all_goals (with_reducible rfl)
        try simp only [Act.put, List.setIfInBounds_toArray, List.set_cons_zero, List.set_cons_succ]
        refine take_at 11 (some 39) (.bool false) rfl rfl (by kernel_rfl) (by kernel_rfl) (by kernel_rfl) (fun _ _ _ h => h) (Or.inl ⟨by rfl, fun w' hSw => ?_⟩) (e9) ?_
        · skip
          try clear hSw
          go_simp
          all_goals (with_reducible rfl)
        try simp only [Act.put, List.setIfInBounds_toArray, List.set_cons_zero, List.set_cons_succ]
        refine take_at 12 (some 40) (.int .i64 0) rfl rfl (by kernel_rfl) (by kernel_rfl) (by kernel_rfl) (fun _ _ _ h => h) (Or.inl ⟨by rfl, fun w' hSw => ?_⟩) (e9) ?_
        · skip
          try clear hSw
          go_simp
          all_goals (with_reducible rfl)
        try simp only [Act.put, List.setIfInBounds_toArray, List.set_cons_zero, List.set_cons_succ]
        refine take_at 13 (some 8) (.bool false) rfl rfl (by kernel_rfl) (by kernel_rfl) (by kernel_rfl) (fun _ _ _ h => h) (Or.inl ⟨by rfl, fun w' hSw => ?_⟩) (e9) ?_
        · skip
          try clear hSw
          go_simp
          all_goals (with_reducible rfl)
        try simp only [Act.put, List.setIfInBounds_toArray, List.set_cons_zero, List.set_cons_succ]
        refine take_at 14 (some 9) (.int .i64 0) rfl rfl (by kernel_rfl) (by kernel_rfl) (by kernel_rfl) (fun _ _ _ h => h) (Or.inl ⟨by rfl, fun w' hSw => ?_⟩) (e9) ?_
        · skip
          try clear hSw
          go_simp
          all_goals (with_reducible rfl)
        try simp only [Act.put, List.setIfInBounds_toArray, List.set_cons_zero, List.set_cons_succ]
        refine wpAnyH_done (by kernel_rfl) ?_ _
        refine NoPanic.normal ?_
        have hin2 := Lib.hid (hin.out.trans e9)
        clear hb9 e9
        go_wp2
        go_roundw
        case rel => exact ⟨k + 1, by go_num, by omega, hin2⟩
        case measure => simp [intOf]; omega
      · obtain rfl : k = t.length := by omega
        go_wp2_with fail
        refine (C2.out _ (HV.out.ext hin.out)).mono ?_
        rintro e w5 ⟨rfl, hx⟩
        have HX := Lib.hid (hin.out.trans hx); clear hx
        have hnl : ¬ ((t.length : Nat) : Int) < (t.length : Int) := by omega
        by_cases hce : ce = 0
        · have h0 : (ce != 0) = false := by rw [hce]; rfl
          cases hcb : cb
          · clear hce hcb
            go_wp2_with fail
            refine (awake_any _).mono ?_
            rintro e w6 ⟨rfl, hx⟩
            have HX2 := Lib.hid (HX.out.trans hx); clear hx
            go_wp2
            go_ret
            exact ⟨rfl, HX2.out⟩
          · obtain ⟨f1, f2⟩ := HF.out hcb hce
            by_cases hlt2 : t.length < s.length
            · have hg : (t.length : Int) < (s.length : Int) := by omega
              clear hce hcb f1 f2 hlt2
              go_wp2_with fail
              refine (awake_any _).mono ?_
              rintro e w6 ⟨rfl, hx⟩
              have HX2 := Lib.hid (HX.out.trans hx); clear hx
              go_wp2
              go_ret
              exact ⟨rfl, HX2.out⟩
            · have heq : t.length = s.length := by omega
              have hle := f2 heq
              have hg : ¬ (t.length : Int) < (s.length : Int) := by omega
              have he2 : ((s.length : Int) == (t.length : Int)) = true := by simp; omega
              have hle2 : Op.bytesLess t s = true ∨ t = s := by simpa [Lib.toList_data] using hle
              clear hce hcb f1 f2 hlt2 heq hle
              rcases hle2 with hle3 | hle3
              · go_wp2_with fail
                refine (awake_any _).mono ?_
                rintro e w6 ⟨rfl, hx⟩
                have HX2 := Lib.hid (HX.out.trans hx); clear hx
                go_wp2
                go_ret
                exact ⟨rfl, HX2.out⟩
              · subst hle3
                go_wp2_with fail
                refine (awake_any _).mono ?_
                rintro e w6 ⟨rfl, hx⟩
                have HX2 := Lib.hid (HX.out.trans hx); clear hx
                go_wp2
                go_ret
                exact ⟨rfl, HX2.out⟩
        · have h0 : (ce != 0) = true := by simpa using hce
          clear hce
          go_wp2_with fail
          refine (awake_any _).mono ?_
          rintro e w6 ⟨rfl, hx⟩
          have HX2 := Lib.hid (HX.out.trans hx); clear hx
          go_wp2
          go_ret
          exact ⟨rfl, HX2.out⟩
end Go.Proofs.YtlachbodibajlaaDoor
namespace Go.Proofs.YtlachbodibajlaaDoor
open Go.RowKit Go.Shelf

/-- what Bound returns, in one: three values -/
theorem RetB.all {ws : List Bw.Word} {n : Nat} {x : Nat → Int} {e : Ending} (h : RetB ws n x e) : ∃ (z : Int) (r : Bool) (er : Int), e = .returned (.tuple #[.int .i64 z, .bool r, .int .i64 er]) ∧
    ∀ e', RetB ws n x e' → e' = .returned (.tuple #[.int .i64 z, .bool r, .int .i64 er]) := by
  rcases h with ⟨h1, rfl⟩ | ⟨h1, h2, rfl⟩ | ⟨h1, h2, h3, rfl⟩ | ⟨h1, h2, h3, r, rfl, hr⟩
  · refine ⟨_, _, _, rfl, fun e' h' => ?_⟩
    rcases h' with ⟨g1, rfl⟩ | ⟨g1, g2, rfl⟩ | ⟨g1, g2, g3, rfl⟩ | ⟨g1, g2, g3, r, rfl, hr⟩
    · rfl
    all_goals exact absurd (h1.symm.trans g1) (by decide)
  · refine ⟨_, _, _, rfl, fun e' h' => ?_⟩
    rcases h' with ⟨g1, rfl⟩ | ⟨g1, g2, rfl⟩ | ⟨g1, g2, g3, rfl⟩ | ⟨g1, g2, g3, r, rfl, hr⟩
    · exact absurd (h1.symm.trans g1) (by decide)
    · rfl
    · exact absurd g2 h2
    · exact absurd g2 h2
  · refine ⟨_, _, _, rfl, fun e' h' => ?_⟩
    rcases h' with ⟨g1, rfl⟩ | ⟨g1, g2, rfl⟩ | ⟨g1, g2, g3, rfl⟩ | ⟨g1, g2, g3, r, rfl, hr⟩
    · exact absurd (h1.symm.trans g1) (by decide)
    · exact absurd h2 g2
    · rfl
    · exact absurd (h3.symm.trans g3) (by decide)
  · refine ⟨_, _, _, rfl, fun e' h' => ?_⟩
    rcases h' with ⟨g1, rfl⟩ | ⟨g1, g2, rfl⟩ | ⟨g1, g2, g3, rfl⟩ | ⟨g1, g2, g3, r', rfl, hr'⟩
    · exact absurd (h1.symm.trans g1) (by decide)
    · exact absurd h2 g2
    · exact absurd (h3.symm.trans g3) (by decide)
    · have : r' = r := by
        cases r <;> cases r' <;> simp_all
      rw [this]

set_option maxHeartbeats 4000000 in
set_option maxRecDepth 100000 in
theorem bathTables_walk (ws : List Bw.Word) (n : Nat) (x : Nat → Int) (V T : Value) (W : World) (hV : Sl W V ws) (hs : Sm ws) (hT : Il W T n x) :
    Calls Tryd.prog 4 #[V, T] W fun e W' => e = .returned (.bool true) ∧ Ext W W' := by
  have c1 := fun X h => table_ret ws V X h hs
  have c2 := fun X h => tableR_ret ws V X h hs
  have c3 := fun X h h' => bound_any ws n x V T X h h' hs
  have c4 := fun X h h' => boundR_any ws n x V T X h h' hs
  have HV := Lib.hid hV; have HT := Lib.hid hT; have C1 := Lib.hid c1; have C2 := Lib.hid c2; have C3 := Lib.hid c3; have C4 := Lib.hid c4
  clear c1 c2 c3 c4 hs
  obtain ⟨A, c, rfl, hac, hcm, -⟩ := hV
  obtain ⟨TA, tc, rfl, htc, htm, -⟩ := hT
  go_enter Tryd.func4, Tryd.ntmps4
  go_wp2_with fail
  refine (C1.out _ HV.out).mono ?_
  rintro e w1 ⟨V1, er1, rfl, hx, hr1⟩
  have HX := Lib.hid hx; have HR1 := Lib.hid hr1; clear hx hr1
  obtain ⟨V1', hV1'⟩ : ∃ v, v = V1 := ⟨_, rfl⟩
  have hsl1 : ∃ A1 n1 c1, V1 = .slice A1 n1 c1 := by
    rcases HR1.out with ⟨-, rfl, -⟩ | ⟨-, -, hil⟩
    · exact ⟨_, _, _, rfl⟩
    · obtain ⟨A1, c1, rfl, -⟩ := hil; exact ⟨_, _, _, rfl⟩
  obtain ⟨A1, n1, k1, rfl⟩ := hsl1
  clear hV1' V1'
  go_wp2_with fail
  refine (C2.out _ (HV.out.ext HX.out)).mono ?_
  rintro e w2 ⟨V2, er2, rfl, hx, hr2⟩
  have HX2 := Lib.hid hx; have HR2 := Lib.hid hr2; clear hx hr2
  have hsl2 : ∃ A1 n1 c1, V2 = .slice A1 n1 c1 := by
    rcases HR2.out with ⟨-, rfl, -⟩ | ⟨-, -, hil⟩
    · exact ⟨_, _, _, rfl⟩
    · obtain ⟨A1, c1, rfl, -⟩ := hil; exact ⟨_, _, _, rfl⟩
  obtain ⟨A2, n2, k2, rfl⟩ := hsl2
  have heq : er1 = er2 ∧ ∃ m f, m ≤ 100000 ∧ Il w2 (.slice A1 n1 k1) m f ∧ Il w2 (.slice A2 n2 k2) m f := by
    rcases HR1.out with ⟨a1, a2, a3⟩ | ⟨a1, a2, a3⟩ <;> rcases HR2.out with ⟨b1, b2, b3⟩ | ⟨b1, b2, b3⟩
    · refine ⟨by rw [a3, b3], 0, fun _ => 0, by omega, ?_, ?_⟩
      · rw [a2]; exact ⟨none, 0, rfl, Nat.le_refl _, by omega, fun h => by omega⟩
      · rw [b2]; exact ⟨none, 0, rfl, Nat.le_refl _, by omega, fun h => by omega⟩
    · rw [a1] at b1; cases b1
    · rw [a1] at b1; cases b1
    · obtain ⟨-, h4, h8, -⟩ := okWs_iff.1 a1
      have := Bw.sz_le ws h4 h8
      exact ⟨by rw [a2, b2], _, _, by omega, a3.ext HX2.out, b3⟩
  obtain ⟨rfl, m, f, hm, hI1, hI2⟩ := heq
  have HI := Lib.hid (And.intro hm (And.intro hI1 hI2))
  replace HX := Lib.hid (HX.out.trans HX2.out)
  clear hm hI1 hI2 HR1 HR2 HX2
  go_wp2_with fail
  refine (equalI_any m f _ _ _ HI.out.2.1 HI.out.2.2 HI.out.1).mono ?_
  rintro e w3 ⟨rfl, hx⟩
  replace HX := Lib.hid (HX.out.trans hx); clear hx HI
  have h0 : (er1 != er1) = false := by simp
  go_wp2_with fail
  refine (awake_any _).mono ?_
  rintro e w4 ⟨rfl, hx⟩
  replace HX := Lib.hid (HX.out.trans hx); clear hx
  go_wp2_with fail
  refine (C3.out _ (HV.out.ext HX.out) (HT.out.ext HX.out)).mono ?_
  rintro e w5 ⟨hb, hx⟩
  replace HX := Lib.hid (HX.out.trans hx); clear hx
  obtain ⟨z, r, er, rfl, hall⟩ := hb.all
  have HALL := Lib.hid hall
  clear hall hb
  go_wp2_with fail
  refine (C4.out _ (HV.out.ext HX.out) (HT.out.ext HX.out)).mono ?_
  rintro e w6 ⟨hb, hx⟩
  replace HX := Lib.hid (HX.out.trans hx); clear hx
  obtain rfl := HALL.out _ hb
  clear hb
  go_wp2
  go_ret
  exact ⟨rfl, HX.out⟩
end Go.Proofs.YtlachbodibajlaaDoor
