/- Walks: moves and ownMoves of the law; slices.Equal of moves. -/
import Derived.Test.YtgjanbgehbpciaaA2
import Derived.Test.YtgjanbgehbpciaaV13
namespace Go.Proofs.Ytgjanbgehbpciaa
open Go.RowKit

theorem Ml.of_row {w : World} {base : Nat} {e : TypeId} {v : Value} {l : List Mv} (h : w.ownsRow base e 4 v l.length (l.flatMap mc)) : Ml w v l := by
  have h0 := h
  obtain ⟨h1, h2 | ⟨g, cap, cur, rfl, hg, hh, hn, hcap, hsz, htake⟩⟩ := h
  · obtain ⟨rfl, hn⟩ := h2
    have : l = [] := List.eq_nil_of_length_eq_zero hn
    subst this
    exact Ml.nil_ w
  · refine ⟨some ⟨g, 0, none⟩, cap, rfl, hn, by unfold maxLen at hcap; omega, fun hp => ⟨g, 0, rfl, (Array.getElem?_eq_some_iff.1 hh).1, fun j m hj => ?_⟩⟩
    have e : ∀ i, (⟨g, 0, none⟩ : Addr).add i = ⟨g, 0 + i, none⟩ := fun i => by unfold Addr.add; split <;> simp_all
    obtain ⟨a0, a1, a2, a3⟩ := mc_at l j m hj
    refine ⟨?_, ?_, ?_, ?_⟩ <;> (rw [← e]; apply h0.cells (g := g) rfl; assumption)
theorem Ml.len {w : World} {A : Option Addr} {n c : Nat} {l : List Mv} (h : Ml w (.slice A n c) l) : n = l.length := by
  obtain ⟨A', c', e, _⟩ := h; injection e

theorem info31 : (Try.prog.info? 31).map (fun i => (i.zero, i.size, i.bytes)) = some (some (.agg #[.int .i64 0, .int .i64 0, .int .i64 0, .bool false]), 4, 32) := by kernel_rfl
/-- the first of some moves, laid anew -/
def PR (W : World) (e : TypeId) (l : List Mv) (k : Nat) (v : Value) (wr : World) : Prop := wr.ownsRow W.heap.size e 4 v k ((l.take k).flatMap mc) ∧ Ext W wr
theorem PR.zero (W : World) (e : TypeId) (l : List Mv) : PR W e l 0 (.slice none 0 0) W := ⟨⟨by simp, .inl ⟨rfl, rfl⟩⟩, Ext.refl _⟩
theorem PR.ml {W wr : World} {e : TypeId} {l : List Mv} {k : Nat} {v : Value} (h : PR W e l k v wr) (hk : k ≤ l.length) : Ml wr v (l.take k) :=
  Ml.of_row (base := W.heap.size) (e := e) (by rw [List.length_take, Nat.min_eq_left hk]; exact h.1)
theorem PR.next {W V w9 : World} {e : TypeId} {l : List Mv} {k : Nat} {u v' : Value} {m : Mv} {o : Obj} (hm : l[k]? = some m) (hp : W.heap.size ≤ V.heap.size) (hE : Ext W V)
    (hown : (V.alloc o).ownsRow W.heap.size e 4 u k ((l.take k).flatMap mc)) (hown' : w9.ownsRow W.heap.size e 4 v' (k + 1) ((l.take k).flatMap mc ++ mc m)) (hgrow : (V.alloc o).grownBy w9 u.ownBlock) :
    PR W e l (k + 1) v' w9 := by
  have e1 : l.take (k + 1) = l.take k ++ [m] := by rw [List.take_add_one, hm]; rfl
  unfold PR
  rw [e1, List.flatMap_append]
  refine ⟨by simpa using hown', ?_⟩
  exact Below.grown (hE.alc o) hgrow (by simp; omega) (fun k hk => by have := (hown.lt k hk).1; omega)

set_option maxHeartbeats 4000000 in
set_option maxRecDepth 100000 in
theorem moves_c (b off n c : Nat) (l : List Mv) (W : World) (hn : n = l.length) (hnc : n ≤ c) (hcm : c ≤ 9223372036854775807) (hb : b < W.heap.size)
    (hc : ∀ j m, l[j]? = some m → W.cell? ⟨b, off + j * 4, none⟩ = some (.int .i64 m.dx) ∧ W.cell? ⟨b, off + (j * 4 + 1), none⟩ = some (.int .i64 m.dy) ∧ W.cell? ⟨b, off + (j * 4 + 2), none⟩ = some (.int .i64 m.t) ∧ W.cell? ⟨b, off + (j * 4 + 3), none⟩ = some (.bool m.f)) :
    Calls Try.prog 31 #[.slice (some ⟨b, off, none⟩) n c] W fun e W' => ∃ v, e = .returned v ∧ Ml W' v (l.take 521) ∧ Ext W W' := by
  obtain ⟨i0, hi, hz0, hz1, hz2⟩ := info_parts info31
  have HC := Lib.hid hc; have HN := Lib.hid hn; clear hc hn
  go_enter Try.func31, Try.ntmps31
  go_wp2_with fail
  go_loopw [3, 8] (fun v i wr => ∃ k : Nat, i = .int .i64 k ∧ k ≤ n ∧ k ≤ 521 ∧ PR W 31 l k v wr) (fun _ i _ => n - (intOf i).toNat)
  case atStart => exact ⟨0, rfl, by omega, by omega, PR.zero W 31 l⟩
  case round =>
    obtain ⟨k, rfl, hk, hk5, hp⟩ := hrel
    have HP := Lib.hid hp; clear hp
    by_cases hlt : k < n
    · obtain ⟨m, hm⟩ : ∃ m, l[k]? = some m := ⟨l[k]'(by rw [← HN.out]; exact hlt), List.getElem?_eq_getElem _⟩
      obtain ⟨c0, c1, c2, c3⟩ := HC.out k m hm
      have d0 := keepAt HP.out.2 hb c0; have d1 := keepAt HP.out.2 hb c1; have d2 := keepAt HP.out.2 hb c2; have d3 := keepAt HP.out.2 hb c3
      clear c0 c1 c2 c3
      have HM := Lib.hid hm; clear hm
      rw [← Nat.add_assoc] at d1 d2 d3
      by_cases h520 : k ≤ 520
      · go_wp2_with fail
        refine (move_any m _).mono ?_
        rintro e V ⟨rfl, hx⟩
        have e1 : Ext wr V := nx ((Ext.refl wr).alc _) hx
        have E1 := Lib.hid e1; clear e1 hx d0 d1 d2 d3
        have hown := (World.ownsRow.ext HP.out.1 E1.out).alloc (.cells #[.int .i64 m.dx, .int .i64 m.dy, .int .i64 m.t, .bool m.f] 31)
        have hbase := HP.out.2.size
        have hsz := E1.out.size
        go_wp2_with (at_builtin; refine wpList_append_own _ rfl _ _ 51 rfl W.heap.size 31 i0 (.agg #[.int .i64 0, .int .i64 0, .int .i64 0, .bool false]) 4 32 Try.underlying51 hi hz0 hz1 hz2 rfl (by decide) _ _ _ rfl hown ⟨V.heap.size, 0, none⟩ 1 1 (mc m) rfl rfl ?c1 ?c2 ?c3 ?c4 ?c5 ?_)
        case c1 =>
          intro j u hj
          match j, hj with
          | 0, hj => simp [mc] at hj; subst hj; simp [Addr.add]
          | 1, hj => simp [mc] at hj; subst hj; simp [Addr.add]
          | 2, hj => simp [mc] at hj; subst hj; simp [Addr.add]
          | 3, hj => simp [mc] at hj; subst hj; simp [Addr.add]
          | j + 4, hj => simp [mc] at hj
        case c2 => intro u hu; simp [mc] at hu; rcases hu with rfl | rfl | rfl | rfl <;> rfl
        case c3 => unfold maxLen; omega
        case c4 => omega
        case c5 => simp; omega
        intro v' w9 hown' hgrow _
        have hpn : PR W 31 l (k + 1) v' w9 := PR.next HM.out (by omega) (HP.out.2.trans E1.out) hown hown' hgrow
        have HP2 := Lib.hid hpn
        clear hpn hown hown' hgrow
        go_wp2_with fail
        go_roundw
        case rel => exact ⟨k + 1, by go_num, by omega, by omega, HP2.out⟩
        case measure => simp [intOf]; omega
      · obtain rfl : k = 521 := by omega
        rw [show ((521 : Nat) : Int) = 521 from rfl]
        go_wp2
        go_ret
        exact ⟨_, rfl, (HP.out.ml (by rw [← HN.out]; exact hk)).ext ((Ext.refl _).alc _), HP.out.2.alc _⟩
    · obtain rfl : k = n := by omega
      go_wp2
      go_ret
      refine ⟨_, rfl, ?_, HP.out.2⟩
      have : l.take 521 = l.take k := by rw [List.take_of_length_le (by rw [← HN.out]; exact hk5), List.take_of_length_le (by rw [← HN.out]; exact Nat.le_refl _)]
      rw [this]
      exact HP.out.ml (by rw [← HN.out]; exact Nat.le_refl _)

set_option maxRecDepth 100000 in
theorem moves_nil (A : Option Addr) (c : Nat) (W : World) :
    Calls Try.prog 31 #[.slice A 0 c] W fun e W' => e = .returned (.slice none 0 0) ∧ Ext W W' := by
  go_enter Try.func31, Try.ntmps31
  go_wp2_with fail
  go_loopw [3, 8] (fun v i wr => v = .slice none 0 0 ∧ i = .int .i64 0 ∧ wr = W) (fun _ _ _ => 0)
  case atStart => exact ⟨rfl, rfl, rfl⟩
  case round =>
    obtain ⟨rfl, rfl, rfl⟩ := hrel
    go_wp2
    go_ret
    exact ⟨rfl, Ext.refl _⟩

/-- moves that come in from outside -/
def Mi (W : World) (A : Option Addr) (n c : Nat) (l : List Mv) : Prop :=
  n = l.length ∧ n ≤ c ∧ c ≤ 9223372036854775807 ∧ (0 < n → ∃ b off, A = some ⟨b, off, none⟩ ∧ b < W.heap.size ∧ ∀ j m, l[j]? = some m → W.cell? ⟨b, off + j * 4, none⟩ = some (.int .i64 m.dx) ∧ W.cell? ⟨b, off + (j * 4 + 1), none⟩ = some (.int .i64 m.dy) ∧ W.cell? ⟨b, off + (j * 4 + 2), none⟩ = some (.int .i64 m.t) ∧ W.cell? ⟨b, off + (j * 4 + 3), none⟩ = some (.bool m.f))
theorem Mi.ml {W : World} {A : Option Addr} {n c : Nat} {l : List Mv} (h : Mi W A n c l) : Ml W (.slice A n c) l := by
  obtain ⟨rfl, h1, h2, h4⟩ := h
  exact ⟨A, c, rfl, h1, h2, h4⟩
theorem Ml.mi {W : World} {A : Option Addr} {n c : Nat} {l : List Mv} (h : Ml W (.slice A n c) l) : Mi W A n c l := by
  obtain ⟨A', c', e, h1, h2, h4⟩ := h
  injection e with e1 e2 e3
  subst e1 e2 e3
  exact ⟨rfl, h1, h2, h4⟩
theorem moves_any (A : Option Addr) (n c : Nat) (l : List Mv) (W : World) (h : Ml W (.slice A n c) l) :
    Calls Try.prog 31 #[.slice A n c] W fun e W' => ∃ v, e = .returned v ∧ Ml W' v (l.take 521) ∧ Ext W W' := by
  obtain ⟨hn, h1, h2, h4⟩ := h.mi
  by_cases h0 : 0 < n
  · obtain ⟨b, off, rfl, hb, hc⟩ := h4 h0
    exact moves_c b off n c l W hn h1 h2 hb hc
  · obtain rfl : n = 0 := by omega
    have hl : l = [] := List.eq_nil_of_length_eq_zero hn.symm
    subst hl
    refine (moves_nil A c W).mono ?_
    rintro e W' ⟨rfl, hx⟩
    exact ⟨_, rfl, Ml.nil_ _, hx⟩
end Go.Proofs.Ytgjanbgehbpciaa
