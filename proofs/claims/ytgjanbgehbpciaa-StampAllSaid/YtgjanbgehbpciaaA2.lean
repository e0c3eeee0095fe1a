/- Walks: the reference's Moves; slices of moves. -/
import Derived.Test.YtgjanbgehbpciaaPool
import Derived.Test.YtgjanbgehbpciaaA1
import Derived.Test.YtgjanbgehbpciaaV10
namespace Go.Proofs.Ytgjanbgehbpciaa
open Go.RowKit

/-- the cells of a move -/
def mc (m : Mv) : List Value := [.int .i64 m.dx, .int .i64 m.dy, .int .i64 m.t, .bool m.f]
/-- a slice of moves -/
def Ml (w : World) (v : Value) (l : List Mv) : Prop :=
  ∃ A c, v = .slice A l.length c ∧ l.length ≤ c ∧ c ≤ 9223372036854775807 ∧
    (0 < l.length → ∃ b off, A = some ⟨b, off, none⟩ ∧ b < w.heap.size ∧ ∀ j m, l[j]? = some m → w.cell? ⟨b, off + j * 4, none⟩ = some (.int .i64 m.dx) ∧ w.cell? ⟨b, off + (j * 4 + 1), none⟩ = some (.int .i64 m.dy) ∧ w.cell? ⟨b, off + (j * 4 + 2), none⟩ = some (.int .i64 m.t) ∧ w.cell? ⟨b, off + (j * 4 + 3), none⟩ = some (.bool m.f))
theorem Ml.ext {X Y : World} {v : Value} {l : List Mv} (h : Ml X v l) (e : Ext X Y) : Ml Y v l := by
  obtain ⟨A, c, rfl, h1, h2, h4⟩ := h
  refine ⟨A, c, rfl, h1, h2, fun hp => ?_⟩
  obtain ⟨b, off, rfl, hb, hc⟩ := h4 hp
  refine ⟨b, off, rfl, Nat.lt_of_lt_of_le hb e.size, fun j m hm => ?_⟩
  obtain ⟨q0, q1, q2, q3⟩ := hc j m hm
  exact ⟨keepAt e hb q0, keepAt e hb q1, keepAt e hb q2, keepAt e hb q3⟩
theorem Ml.nil_ (w : World) : Ml w (.slice none 0 0) [] := ⟨none, 0, rfl, Nat.le_refl _, by omega, fun h => absurd h (by simp)⟩
theorem mc_len (l : List Mv) : (l.flatMap mc).length = l.length * 4 := by
  induction l with
  | nil => rfl
  | cons m l ih => rw [List.flatMap_cons, List.length_append, ih, List.length_cons]; simp [mc]; omega
theorem mc_at : ∀ (l : List Mv) (j : Nat) (m : Mv), l[j]? = some m → (l.flatMap mc)[j * 4]? = some (.int .i64 m.dx) ∧ (l.flatMap mc)[j * 4 + 1]? = some (.int .i64 m.dy) ∧ (l.flatMap mc)[j * 4 + 2]? = some (.int .i64 m.t) ∧ (l.flatMap mc)[j * 4 + 3]? = some (.bool m.f)
  | [], j, m, h => by simp at h
  | a :: l, 0, m, h => by
    simp at h; subst h
    simp [List.flatMap_cons, mc]
  | a :: l, j + 1, m, h => by
    have ih := mc_at l j m (by simpa using h)
    have e : ∀ k, (List.flatMap mc (a :: l))[(j + 1) * 4 + k]? = (List.flatMap mc l)[j * 4 + k]? := fun k => by
      rw [List.flatMap_cons, List.getElem?_append_right (by simp [mc]; omega)]
      congr 1
      simp [mc]; omega
    refine ⟨?_, ?_, ?_, ?_⟩
    · have := e 0; simp only [Nat.add_zero] at this; rw [this]; exact ih.1
    · rw [e 1]; exact ih.2.1
    · rw [e 2]; exact ih.2.2.1
    · rw [e 3]; exact ih.2.2.2
theorem Ml.of_own {w : World} {base : Nat} {v : Value} {l : List Mv} (h : w.ownsRow base 26 4 v l.length (l.flatMap mc)) : Ml w v l := by
  have h0 := h
  obtain ⟨h1, h2 | ⟨g, cap, cur, rfl, hg, hh, hn, hcap, hsz, htake⟩⟩ := h
  · obtain ⟨rfl, hn⟩ := h2
    have : l = [] := List.eq_nil_of_length_eq_zero hn
    subst this
    exact Ml.nil_ w
  · refine ⟨some ⟨g, 0, none⟩, cap, rfl, hn, by unfold maxLen at hcap; omega, fun hp => ⟨g, 0, rfl, (Array.getElem?_eq_some_iff.1 hh).1, fun j m hj => ?_⟩⟩
    have e : ∀ i, (⟨g, 0, none⟩ : Addr).add i = ⟨g, 0 + i, none⟩ := fun i => by unfold Addr.add; split <;> simp_all
    obtain ⟨a0, a1, a2, a3⟩ := mc_at l j m hj
    refine ⟨?_, ?_, ?_, ?_⟩ <;> (rw [← e]; apply h0.cells (g := g) rfl; assumption)

/-- where a move stands among all with every turn -/
def pos (w h k t x y : Nat) : Nat := ((k * 4 + t) * w + x) * h + y
def dec (w h p : Nat) : Mv := ⟨((p / h % w : Nat) : Int), ((p % h : Nat) : Int), ((p / h / w % 4 : Nat) : Int), decide (p / h / w / 4 = 1)⟩
def mvs (w h N : Nat) : List Mv := ((List.range N).map (dec w h)).filter (fun m => has w h m)
theorem mvs_zero (w h : Nat) : mvs w h 0 = [] := rfl
theorem mvs_len (w h N : Nat) : (mvs w h N).length ≤ N := by
  have := List.length_filter_le (fun m => has w h m) ((List.range N).map (dec w h))
  simpa [mvs] using this
theorem mvs_yes {w h N : Nat} (hm : has w h (dec w h N) = true) : mvs w h (N + 1) = mvs w h N ++ [dec w h N] := by
  unfold mvs
  rw [List.range_succ, List.map_append, List.filter_append]
  simp [hm]
theorem mvs_no {w h N : Nat} (hm : has w h (dec w h N) = false) : mvs w h (N + 1) = mvs w h N := by
  unfold mvs
  rw [List.range_succ, List.map_append, List.filter_append]
  simp [hm]
theorem dec_pos {w h k t x y : Nat} (hk : k < 2) (ht : t < 4) (hx : x < w) (hy : y < h) : dec w h (pos w h k t x y) = ⟨x, y, t, decide (k = 1)⟩ := by
  have e1 : pos w h k t x y / h = (k * 4 + t) * w + x := by
    unfold pos
    rw [Nat.mul_comm _ h, Nat.mul_add_div (by omega), Nat.div_eq_of_lt hy, Nat.add_zero]
  have e2 : pos w h k t x y % h = y := by
    unfold pos
    rw [Nat.mul_comm _ h, Nat.mul_add_mod, Nat.mod_eq_of_lt hy]
  have e3 : ((k * 4 + t) * w + x) / w = k * 4 + t := by
    rw [Nat.mul_comm _ w, Nat.mul_add_div (by omega), Nat.div_eq_of_lt hx, Nat.add_zero]
  have e4 : ((k * 4 + t) * w + x) % w = x := by
    rw [Nat.mul_comm _ w, Nat.mul_add_mod, Nat.mod_eq_of_lt hx]
  unfold dec
  rw [e1, e2, e3, e4]
  have e5 : (k * 4 + t) % 4 = t := by omega
  have e6 : (k * 4 + t) / 4 = k := by omega
  rw [e5, e6]
theorem pos_y (w h k t x : Nat) : pos w h k t x h = pos w h k t (x + 1) 0 := by
  unfold pos; rw [← Nat.add_assoc _ x 1, Nat.succ_mul]; rfl
theorem pos_x (w h k t : Nat) : pos w h k t w 0 = pos w h k (t + 1) 0 0 := by
  unfold pos; rw [← Nat.add_assoc _ t 1, Nat.succ_mul]; rfl
theorem pos_t (w h k : Nat) : pos w h k 4 0 0 = pos w h (k + 1) 0 0 0 := by
  unfold pos; rw [show k * 4 + 4 = (k + 1) * 4 + 0 by omega]
theorem pos_bd {w h k t x y : Nat} (hw : w ≤ 8) (hh : h ≤ 8) (hk : k < 2) (ht : t < 4) (hx : x < w) (hy : y < h) : pos w h k t x y ≤ 511 := by
  have h1 : (k * 4 + t) * w ≤ 7 * 8 := Nat.mul_le_mul (by omega) hw
  have h2 : ((k * 4 + t) * w + x) * h ≤ 63 * 8 := Nat.mul_le_mul (by omega) hh
  unfold pos
  omega

theorem info26 : (Try.prog.info? 26).map (fun i => (i.zero, i.size, i.bytes)) = some (some (.agg #[.int .i64 0, .int .i64 0, .int .i64 0, .bool false]), 4, 32) := by kernel_rfl
/-- the moves found so far -/
def MR (W : World) (w h : Nat) (N : Nat) (v : Value) (wr : World) : Prop := wr.ownsRow W.heap.size 26 4 v (mvs w h N).length ((mvs w h N).flatMap mc) ∧ Ext W wr

set_option maxHeartbeats 4000000 in
set_option maxRecDepth 100000 in
theorem movesR_any (w h : Nat) (W : World) (hw : 1 ≤ w ∧ w ≤ 8) (hh : 1 ≤ h ∧ h ≤ 8) :
    Calls Try.prog 34 #[.int .i64 w, .int .i64 h] W fun e W' => ∃ v, e = .returned v ∧ Ml W' v (mvs w h (pos w h 2 0 0 0)) ∧ Ext W W' := by
  obtain ⟨i0, hi, hz0, hz1, hz2⟩ := info_parts info26
  go_enter Try.func34, Try.ntmps34
  go_wp2
  go_loopw [5, 13] (fun v i wr => ∃ k : Nat, i = .int .i64 k ∧ k ≤ 2 ∧ MR W w h (pos w h k 0 0 0) v wr) (fun _ i _ => 2 - (intOf i).toNat)
  case atStart => exact ⟨0, rfl, by omega, ⟨⟨by simp [pos, mvs_zero], .inl ⟨rfl, by simp [pos, mvs_zero]⟩⟩, Ext.refl _⟩⟩
  case round =>
    obtain ⟨k, rfl, hk, hmr⟩ := hrel
    have HM := Lib.hid hmr; clear hmr
    by_cases hk2 : k < 2
    · obtain ⟨f, hf⟩ : ∃ f, f = decide (k = 1) := ⟨_, rfl⟩
      have ik : ∀ w, (Instr.index 97 (.agg #[.bool false, .bool true]) (.int .i64 (k : Int))).run Try.prog w = .ok (.bool f) w := by
        rw [hf]
        rcases (by omega : k = 0 ∨ k = 1) with rfl | rfl
        · exact fun _ => by kernel_rfl
        · exact fun _ => by kernel_rfl
      have HF := Lib.hid hf; clear hf
      go_wp2_with fail
      rw [show decide ((k : Int) < 2) = true from decide_eq_true (by omega)]
      go_loopw [5, 16] (fun v i wr => ∃ t : Nat, i = .int .i64 t ∧ t ≤ 4 ∧ MR W w h (pos w h k t 0 0) v wr) (fun _ i _ => 4 - (intOf i).toNat)
      case atStart => exact ⟨0, rfl, by omega, HM.out⟩
      case round =>
        obtain ⟨t, rfl, ht, hmr⟩ := hrel
        clear HM; have HM := Lib.hid hmr; clear hmr
        by_cases ht4 : t < 4
        · go_wp2_with fail
          rw [show decide ((t : Int) < 4) = true from decide_eq_true (by omega)]
          go_loopw [5, 20] (fun v i wr => ∃ x : Nat, i = .int .i64 x ∧ x ≤ w ∧ MR W w h (pos w h k t x 0) v wr) (fun _ i _ => w - (intOf i).toNat)
          case atStart => exact ⟨0, rfl, by omega, HM.out⟩
          case round =>
            obtain ⟨x, rfl, hx, hmr⟩ := hrel
            clear HM; have HM := Lib.hid hmr; clear hmr
            by_cases hxw : x < w
            · go_wp2_with fail
              go_loopw [5, 24] (fun v i wr => ∃ y : Nat, i = .int .i64 y ∧ y ≤ h ∧ MR W w h (pos w h k t x y) v wr) (fun _ i _ => h - (intOf i).toNat)
              case atStart => exact ⟨0, rfl, by omega, HM.out⟩
              case round =>
                obtain ⟨y, rfl, hy, hmr⟩ := hrel
                clear HM; have HM := Lib.hid hmr; clear hmr
                by_cases hyh : y < h
                · have hdec : Hid (dec w h (pos w h k t x y) = ⟨x, y, t, f⟩) := Lib.hid (by rw [dec_pos hk2 ht4 hxw hyh, HF.out])
                  have hbd := pos_bd hw.2 hh.2 hk2 ht4 hxw hyh
                  have hle := mvs_len w h (pos w h k t x y)
                  cases hm : has w h ⟨x, y, t, f⟩
                  · have Hm := Lib.hid hm; clear hm
                    go_wp2_with fail
                    refine (fits_is Hm.out _).mono ?_
                    rintro e V ⟨rfl, hb⟩
                    have e1 : Ext wr V := nx ((Ext.refl wr).alc _) hb
                    have E1 := Lib.hid e1; clear e1 hb
                    go_wp2_with fail
                    go_roundw
                    case rel =>
                      refine ⟨y + 1, by go_num, by omega, ?_⟩
                      have e2 : mvs w h (pos w h k t x (y + 1)) = mvs w h (pos w h k t x y) := mvs_no (N := pos w h k t x y) (by rw [hdec.out]; exact Hm.out)
                      unfold MR
                      rw [e2]
                      exact ⟨World.ownsRow.ext HM.out.1 E1.out, HM.out.2.trans E1.out⟩
                    case measure => simp [intOf]; omega
                  · have Hm := Lib.hid hm; clear hm
                    go_wp2_with fail
                    refine (fits_is Hm.out _).mono ?_
                    rintro e V ⟨rfl, hb⟩
                    have e1 : Ext wr V := nx ((Ext.refl wr).alc _) hb
                    have hq : Q4 (wr.alloc (.cells #[.int .i64 x, .int .i64 y, .int .i64 t, .bool f] 26)) wr.heap.size (.int .i64 x) (.int .i64 y) (.int .i64 t) (.bool f) := by
                      refine ⟨?_, ?_, ?_, ?_⟩ <;> (rw [World.cell?_alloc_new]; rfl)
                    obtain ⟨c0, c1, c2, c3⟩ := hq.ext (by simp) hb
                    have E1 := Lib.hid e1; clear e1 hb hq
                    have hown := (World.ownsRow.ext HM.out.1 E1.out).alloc (.cells #[.int .i64 x, .int .i64 y, .int .i64 t, .bool f] 26)
                    have hbase := HM.out.2.size
                    have hsz := E1.out.size
                    go_wp2_with (at_builtin; refine wpList_append_own _ rfl _ _ 50 rfl W.heap.size 26 i0 (.agg #[.int .i64 0, .int .i64 0, .int .i64 0, .bool false]) 4 32 Try.underlying50 hi hz0 hz1 hz2 rfl (by decide) _ _ _ rfl hown ⟨V.heap.size, 0, none⟩ 1 1 (mc ⟨x, y, t, f⟩) rfl rfl ?c1 ?c2 ?c3 ?c4 ?c5 ?_)
                    case c1 =>
                      intro j u hj
                      match j, hj with
                      | 0, hj => simp [mc] at hj; subst hj; simp [Addr.add]
                      | 1, hj => simp [mc] at hj; subst hj; simp [Addr.add]
                      | 2, hj => simp [mc] at hj; subst hj; simp [Addr.add]
                      | 3, hj => simp [mc] at hj; subst hj; simp [Addr.add]
                      | j + 4, hj => simp [mc] at hj
                    case c2 => intro u hu; simp [mc] at hu; rcases hu with rfl | rfl | rfl | rfl <;> rfl
                    case c3 => unfold maxLen; omega
                    case c4 => omega
                    case c5 => simp; omega
                    intro v' w9 hown' hgrow _
                    have e9 : Ext W w9 := Below.grown ((HM.out.2.trans E1.out).alc (.cells #[.int .i64 x, .int .i64 y, .int .i64 t, .bool f] 26)) hgrow (by simp; omega) (fun k hk => by have := (hown.lt k hk).1; omega)
                    have e2 : mvs w h (pos w h k t x (y + 1)) = mvs w h (pos w h k t x y) ++ [⟨x, y, t, f⟩] := (mvs_yes (N := pos w h k t x y) (by rw [hdec.out]; exact Hm.out)).trans (by rw [hdec.out])
                    have hmr : MR W w h (pos w h k t x (y + 1)) v' w9 := by
                      unfold MR
                      rw [e2, List.length_append, List.flatMap_append]
                      exact ⟨by simpa using hown', e9⟩
                    have HM2 := Lib.hid hmr
                    clear hmr e2 hown' hgrow hown e9 c0 c1 c2 c3
                    go_wp2_with fail
                    go_roundw
                    case rel => exact ⟨y + 1, by go_num, by omega, HM2.out⟩
                    case measure => simp [intOf]; omega
                · obtain rfl : y = h := by omega
                  go_wp2_with fail
                  go_roundw
                  case rel => exact ⟨x + 1, by go_num, by omega, by rw [← pos_y]; exact HM.out⟩
                  case measure => simp [intOf]; omega
            · obtain rfl : x = w := by omega
              go_wp2_with fail
              go_roundw
              case rel => exact ⟨t + 1, by go_num, by omega, by rw [← pos_x]; exact HM.out⟩
              case measure => simp [intOf]; omega
        · obtain rfl : t = 4 := by omega
          go_wp2_with fail
          go_roundw
          case rel => exact ⟨k + 1, by go_num, by omega, by rw [← pos_t]; exact HM.out⟩
          case measure => simp [intOf]; omega
    · obtain rfl : k = 2 := by omega
      go_wp2
      go_ret
      exact ⟨_, rfl, Ml.of_own HM.out.1, HM.out.2⟩
end Go.Proofs.Ytgjanbgehbpciaa
