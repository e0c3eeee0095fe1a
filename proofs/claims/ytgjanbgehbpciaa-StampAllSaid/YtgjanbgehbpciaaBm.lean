/- Walks: moves and ownMoves of the law; slices.Equal of moves. · Walks: ownMoves of the law. · Walks: slices.Equal of moves. · Walks: the numbers of moves. -/
import Derived.Test.YtgjanbgehbpciaaA2
import Derived.Test.YtgjanbgehbpciaaV13
import Derived.Deep.QuietTactic
import Derived.BigQuiet
namespace Go.Proofs.Ytgjanbgehbpciaa
open Go.RowKit

theorem Ml.of_row {w : World} {base : Nat} {e : TypeId} {v : Value} {l : List Mv} (h : w.ownsRow base e 4 v l.length (l.flatMap mc)) : Ml w v l := by
  have h0 := h
  obtain ⟨h1, h2 | ⟨g, cap, cur, rfl, hg, hh, hn, hcap, hsz, htake⟩⟩ := h
  · obtain ⟨rfl, hn⟩ := h2
    have : l = [] := List.eq_nil_of_length_eq_zero hn
    subst this
    exact Ml.nil_ w
  · refine ⟨some ⟨g, 0, none⟩, cap, rfl, hn, by unfold maxLen at hcap; omega, fun hp => ⟨g, 0, rfl, (Array.getElem?_eq_some_iff.1 hh).1, fun j m hj => ?_⟩⟩
    have e : ∀ i, (⟨g, 0, none⟩ : Addr).add i = ⟨g, 0 + i, none⟩ := fun i => by unfold Addr.add; split <;> simp_all
    obtain ⟨a0, a1, a2, a3⟩ := mc_at l j m hj
    refine ⟨?_, ?_, ?_, ?_⟩ <;> (rw [← e]; apply h0.cells (g := g) rfl; assumption)
theorem Ml.len {w : World} {A : Option Addr} {n c : Nat} {l : List Mv} (h : Ml w (.slice A n c) l) : n = l.length := by
  obtain ⟨A', c', e, _⟩ := h; injection e

theorem info31 : (Try.prog.info? 31).map (fun i => (i.zero, i.size, i.bytes)) = some (some (.agg #[.int .i64 0, .int .i64 0, .int .i64 0, .bool false]), 4, 32) := by kernel_rfl
/-- the first of some moves, laid anew -/
def PR (W : World) (e : TypeId) (l : List Mv) (k : Nat) (v : Value) (wr : World) : Prop := wr.ownsRow W.heap.size e 4 v k ((l.take k).flatMap mc) ∧ Ext W wr
theorem PR.zero (W : World) (e : TypeId) (l : List Mv) : PR W e l 0 (.slice none 0 0) W := ⟨⟨by simp, .inl ⟨rfl, rfl⟩⟩, Ext.refl _⟩
theorem PR.ml {W wr : World} {e : TypeId} {l : List Mv} {k : Nat} {v : Value} (h : PR W e l k v wr) (hk : k ≤ l.length) : Ml wr v (l.take k) :=
  Ml.of_row (base := W.heap.size) (e := e) (by rw [List.length_take, Nat.min_eq_left hk]; exact h.1)
theorem PR.next {W V w9 : World} {e : TypeId} {l : List Mv} {k : Nat} {u v' : Value} {m : Mv} {o : Obj} (hm : l[k]? = some m) (hp : W.heap.size ≤ V.heap.size) (hE : Ext W V)
    (hown : (V.alloc o).ownsRow W.heap.size e 4 u k ((l.take k).flatMap mc)) (hown' : w9.ownsRow W.heap.size e 4 v' (k + 1) ((l.take k).flatMap mc ++ mc m)) (hgrow : (V.alloc o).grownBy w9 u.ownBlock) :
    PR W e l (k + 1) v' w9 := by
  have e1 : l.take (k + 1) = l.take k ++ [m] := by rw [List.take_add_one, hm]; rfl
  unfold PR
  rw [e1, List.flatMap_append]
  refine ⟨by simpa using hown', ?_⟩
  exact Below.grown (hE.alc o) hgrow (by simp; omega) (fun k hk => by have := (hown.lt k hk).1; omega)

set_option maxHeartbeats 4000000 in
set_option maxRecDepth 100000 in
theorem moves_c (b off n c : Nat) (l : List Mv) (W : World) (hn : n = l.length) (hnc : n ≤ c) (hcm : c ≤ 9223372036854775807) (hb : b < W.heap.size)
    (hc : ∀ j m, l[j]? = some m → W.cell? ⟨b, off + j * 4, none⟩ = some (.int .i64 m.dx) ∧ W.cell? ⟨b, off + (j * 4 + 1), none⟩ = some (.int .i64 m.dy) ∧ W.cell? ⟨b, off + (j * 4 + 2), none⟩ = some (.int .i64 m.t) ∧ W.cell? ⟨b, off + (j * 4 + 3), none⟩ = some (.bool m.f)) :
    Calls Try.prog 31 #[.slice (some ⟨b, off, none⟩) n c] W fun e W' => ∃ v, e = .returned v ∧ Ml W' v (l.take 521) ∧ Ext W W' := by
  obtain ⟨i0, hi, hz0, hz1, hz2⟩ := info_parts info31
  have HC := Lib.hid hc; have HN := Lib.hid hn; clear hc hn
  go_enter Try.func31, Try.ntmps31
  go_wp2_with fail
  go_loopw [3, 8] (fun v i wr => ∃ k : Nat, i = .int .i64 k ∧ k ≤ n ∧ k ≤ 521 ∧ PR W 31 l k v wr) (fun _ i _ => n - (intOf i).toNat)
  case atStart => exact ⟨0, rfl, by omega, by omega, PR.zero W 31 l⟩
  case round =>
    obtain ⟨k, rfl, hk, hk5, hp⟩ := hrel
    have HP := Lib.hid hp; clear hp
    by_cases hlt : k < n
    · obtain ⟨m, hm⟩ : ∃ m, l[k]? = some m := ⟨l[k]'(by rw [← HN.out]; exact hlt), List.getElem?_eq_getElem _⟩
      obtain ⟨c0, c1, c2, c3⟩ := HC.out k m hm
      have d0 := keepAt HP.out.2 hb c0; have d1 := keepAt HP.out.2 hb c1; have d2 := keepAt HP.out.2 hb c2; have d3 := keepAt HP.out.2 hb c3
      clear c0 c1 c2 c3
      have HM := Lib.hid hm; clear hm
      rw [← Nat.add_assoc] at d1 d2 d3
      by_cases h520 : k ≤ 520
      · go_wp2_with fail
        refine (move_any m _).mono ?_
        rintro e V ⟨rfl, hx⟩
        have e1 : Ext wr V := nx ((Ext.refl wr).alc _) hx
        have E1 := Lib.hid e1; clear e1 hx d0 d1 d2 d3
        have hown := (World.ownsRow.ext HP.out.1 E1.out).alloc (.cells #[.int .i64 m.dx, .int .i64 m.dy, .int .i64 m.t, .bool m.f] 31)
        have hbase := HP.out.2.size
        have hsz := E1.out.size
        go_wp2_with (at_builtin; refine wpList_append_own _ rfl _ _ 51 rfl W.heap.size 31 i0 (.agg #[.int .i64 0, .int .i64 0, .int .i64 0, .bool false]) 4 32 Try.underlying51 hi hz0 hz1 hz2 rfl (by decide) _ _ _ rfl hown ⟨V.heap.size, 0, none⟩ 1 1 (mc m) rfl rfl ?c1 ?c2 ?c3 ?c4 ?c5 ?_)
        case c1 =>
          intro j u hj
          match j, hj with
          | 0, hj => simp [mc] at hj; subst hj; simp [Addr.add]
          | 1, hj => simp [mc] at hj; subst hj; simp [Addr.add]
          | 2, hj => simp [mc] at hj; subst hj; simp [Addr.add]
          | 3, hj => simp [mc] at hj; subst hj; simp [Addr.add]
          | j + 4, hj => simp [mc] at hj
        case c2 => intro u hu; simp [mc] at hu; rcases hu with rfl | rfl | rfl | rfl <;> rfl
        case c3 => unfold maxLen; omega
        case c4 => omega
        case c5 => simp; omega
        intro v' w9 hown' hgrow _
        have hpn : PR W 31 l (k + 1) v' w9 := PR.next HM.out (by omega) (HP.out.2.trans E1.out) hown hown' hgrow
        have HP2 := Lib.hid hpn
        clear hpn hown hown' hgrow
        go_wp2_with fail
        go_roundw
        case rel => exact ⟨k + 1, by go_num, by omega, by omega, HP2.out⟩
        case measure => simp [intOf]; omega
      · obtain rfl : k = 521 := by omega
        rw [show ((521 : Nat) : Int) = 521 from rfl]
        go_wp2
        go_ret
        exact ⟨_, rfl, (HP.out.ml (by rw [← HN.out]; exact hk)).ext ((Ext.refl _).alc _), HP.out.2.alc _⟩
    · obtain rfl : k = n := by omega
      go_wp2
      go_ret
      refine ⟨_, rfl, ?_, HP.out.2⟩
      have : l.take 521 = l.take k := by rw [List.take_of_length_le (by rw [← HN.out]; exact hk5), List.take_of_length_le (by rw [← HN.out]; exact Nat.le_refl _)]
      rw [this]
      exact HP.out.ml (by rw [← HN.out]; exact Nat.le_refl _)

set_option maxRecDepth 100000 in
theorem moves_nil (A : Option Addr) (c : Nat) (W : World) :
    Calls Try.prog 31 #[.slice A 0 c] W fun e W' => e = .returned (.slice none 0 0) ∧ Ext W W' := by
  go_enter Try.func31, Try.ntmps31
  go_wp2_with fail
  go_loopw [3, 8] (fun v i wr => v = .slice none 0 0 ∧ i = .int .i64 0 ∧ wr = W) (fun _ _ _ => 0)
  case atStart => exact ⟨rfl, rfl, rfl⟩
  case round =>
    obtain ⟨rfl, rfl, rfl⟩ := hrel
    go_wp2
    go_ret
    exact ⟨rfl, Ext.refl _⟩

/-- moves that come in from outside -/
def Mi (W : World) (A : Option Addr) (n c : Nat) (l : List Mv) : Prop :=
  n = l.length ∧ n ≤ c ∧ c ≤ 9223372036854775807 ∧ (0 < n → ∃ b off, A = some ⟨b, off, none⟩ ∧ b < W.heap.size ∧ ∀ j m, l[j]? = some m → W.cell? ⟨b, off + j * 4, none⟩ = some (.int .i64 m.dx) ∧ W.cell? ⟨b, off + (j * 4 + 1), none⟩ = some (.int .i64 m.dy) ∧ W.cell? ⟨b, off + (j * 4 + 2), none⟩ = some (.int .i64 m.t) ∧ W.cell? ⟨b, off + (j * 4 + 3), none⟩ = some (.bool m.f))
theorem Mi.ml {W : World} {A : Option Addr} {n c : Nat} {l : List Mv} (h : Mi W A n c l) : Ml W (.slice A n c) l := by
  obtain ⟨rfl, h1, h2, h4⟩ := h
  exact ⟨A, c, rfl, h1, h2, h4⟩
theorem Ml.mi {W : World} {A : Option Addr} {n c : Nat} {l : List Mv} (h : Ml W (.slice A n c) l) : Mi W A n c l := by
  obtain ⟨A', c', e, h1, h2, h4⟩ := h
  injection e with e1 e2 e3
  subst e1 e2 e3
  exact ⟨rfl, h1, h2, h4⟩
theorem moves_any (A : Option Addr) (n c : Nat) (l : List Mv) (W : World) (h : Ml W (.slice A n c) l) :
    Calls Try.prog 31 #[.slice A n c] W fun e W' => ∃ v, e = .returned v ∧ Ml W' v (l.take 521) ∧ Ext W W' := by
  obtain ⟨hn, h1, h2, h4⟩ := h.mi
  by_cases h0 : 0 < n
  · obtain ⟨b, off, rfl, hb, hc⟩ := h4 h0
    exact moves_c b off n c l W hn h1 h2 hb hc
  · obtain rfl : n = 0 := by omega
    have hl : l = [] := List.eq_nil_of_length_eq_zero hn.symm
    subst hl
    refine (moves_nil A c W).mono ?_
    rintro e W' ⟨rfl, hx⟩
    exact ⟨_, rfl, Ml.nil_ _, hx⟩
end Go.Proofs.Ytgjanbgehbpciaa
namespace Go.Proofs.Ytgjanbgehbpciaa
open Go.RowKit

set_option maxHeartbeats 4000000 in
set_option maxRecDepth 100000 in
theorem ownMoves_c (b off n c : Nat) (l : List Mv) (W : World) (hn : n = l.length) (hnc : n ≤ c) (hn1 : n ≤ 1000) (hcm : c ≤ 9223372036854775807) (hb : b < W.heap.size)
    (hc : ∀ j m, l[j]? = some m → W.cell? ⟨b, off + j * 4, none⟩ = some (.int .i64 m.dx) ∧ W.cell? ⟨b, off + (j * 4 + 1), none⟩ = some (.int .i64 m.dy) ∧ W.cell? ⟨b, off + (j * 4 + 2), none⟩ = some (.int .i64 m.t) ∧ W.cell? ⟨b, off + (j * 4 + 3), none⟩ = some (.bool m.f)) :
    Calls Try.prog 33 #[.slice (some ⟨b, off, none⟩) n c] W fun e W' => ∃ v, e = .returned v ∧ Ml W' v l ∧ Ext W W' := by
  obtain ⟨i0, hi, hz0, hz1, hz2⟩ := info_parts info26
  have HC := Lib.hid hc; have HN := Lib.hid hn; clear hc hn
  go_enter Try.func33, Try.ntmps33
  go_wp2_with fail
  go_loopw [3, 8] (fun v i wr => ∃ k : Nat, i = .int .i64 k ∧ k ≤ n ∧ PR W 26 l k v wr) (fun _ i _ => n - (intOf i).toNat)
  case atStart => exact ⟨0, rfl, by omega, PR.zero W 26 l⟩
  case round =>
    obtain ⟨k, rfl, hk, hp⟩ := hrel
    have HP := Lib.hid hp; clear hp
    by_cases hlt : k < n
    · obtain ⟨m, hm⟩ : ∃ m, l[k]? = some m := ⟨l[k]'(by rw [← HN.out]; exact hlt), List.getElem?_eq_getElem _⟩
      obtain ⟨c0, c1, c2, c3⟩ := HC.out k m hm
      have d0 := keepAt HP.out.2 hb c0; have d1 := keepAt HP.out.2 hb c1; have d2 := keepAt HP.out.2 hb c2; have d3 := keepAt HP.out.2 hb c3
      clear c0 c1 c2 c3
      have HM := Lib.hid hm; clear hm
      rw [← Nat.add_assoc] at d1 d2 d3
      go_wp2_with fail
      refine (ownMove_any m _).mono ?_
      rintro e V ⟨rfl, hx⟩
      have e1 : Ext wr V := nx ((Ext.refl wr).alc _) hx
      have E1 := Lib.hid e1; clear e1 hx d0 d1 d2 d3
      have hown := (World.ownsRow.ext HP.out.1 E1.out).alloc (.cells #[.int .i64 m.dx, .int .i64 m.dy, .int .i64 m.t, .bool m.f] 26)
      have hbase := HP.out.2.size
      have hsz := E1.out.size
      go_wp2_with (at_builtin; refine wpList_append_own _ rfl _ _ 50 rfl W.heap.size 26 i0 (.agg #[.int .i64 0, .int .i64 0, .int .i64 0, .bool false]) 4 32 Try.underlying50 hi hz0 hz1 hz2 rfl (by decide) _ _ _ rfl hown ⟨V.heap.size, 0, none⟩ 1 1 (mc m) rfl rfl ?c1 ?c2 ?c3 ?c4 ?c5 ?_)
      case c1 =>
        intro j u hj
        match j, hj with
        | 0, hj => simp [mc] at hj; subst hj; simp [Addr.add]
        | 1, hj => simp [mc] at hj; subst hj; simp [Addr.add]
        | 2, hj => simp [mc] at hj; subst hj; simp [Addr.add]
        | 3, hj => simp [mc] at hj; subst hj; simp [Addr.add]
        | j + 4, hj => simp [mc] at hj
      case c2 => intro u hu; simp [mc] at hu; rcases hu with rfl | rfl | rfl | rfl <;> rfl
      case c3 => unfold maxLen; omega
      case c4 => omega
      case c5 => simp; omega
      intro v' w9 hown' hgrow _
      have hpn : PR W 26 l (k + 1) v' w9 := PR.next HM.out (by omega) (HP.out.2.trans E1.out) hown hown' hgrow
      have HP2 := Lib.hid hpn
      clear hpn hown hown' hgrow
      go_wp2_with fail
      go_roundw
      case rel => exact ⟨k + 1, by go_num, by omega, HP2.out⟩
      case measure => simp [intOf]; omega
    · obtain rfl : k = n := by omega
      go_wp2
      go_ret
      refine ⟨_, rfl, ?_, HP.out.2⟩
      have := HP.out.ml (by rw [← HN.out]; exact Nat.le_refl _)
      rwa [List.take_of_length_le (by rw [← HN.out]; exact Nat.le_refl _)] at this

set_option maxRecDepth 100000 in
theorem ownMoves_nil (A : Option Addr) (c : Nat) (W : World) :
    Calls Try.prog 33 #[.slice A 0 c] W fun e W' => e = .returned (.slice none 0 0) ∧ Ext W W' := by
  go_enter Try.func33, Try.ntmps33
  go_wp2_with fail
  go_loopw [3, 8] (fun v i wr => v = .slice none 0 0 ∧ i = .int .i64 0 ∧ wr = W) (fun _ _ _ => 0)
  case atStart => exact ⟨rfl, rfl, rfl⟩
  case round =>
    obtain ⟨rfl, rfl, rfl⟩ := hrel
    go_wp2
    go_ret
    exact ⟨rfl, Ext.refl _⟩
theorem ownMoves_any (A : Option Addr) (n c : Nat) (l : List Mv) (W : World) (h : Ml W (.slice A n c) l) (h1000 : l.length ≤ 1000) :
    Calls Try.prog 33 #[.slice A n c] W fun e W' => ∃ v, e = .returned v ∧ Ml W' v l ∧ Ext W W' := by
  obtain ⟨hn, h1, h2, h4⟩ := h.mi
  by_cases h0 : 0 < n
  · obtain ⟨b, off, rfl, hb, hc⟩ := h4 h0
    exact ownMoves_c b off n c l W hn h1 (by omega) h2 hb hc
  · obtain rfl : n = 0 := by omega
    have hl : l = [] := List.eq_nil_of_length_eq_zero hn.symm
    subst hl
    refine (ownMoves_nil A c W).mono ?_
    rintro e W' ⟨rfl, hx⟩
    exact ⟨_, rfl, Ml.nil_ _, hx⟩
end Go.Proofs.Ytgjanbgehbpciaa
namespace Go.Proofs.Ytgjanbgehbpciaa
open Go.RowKit

theorem mv_ne4 {x y : Mv} (h : x ≠ y) : x.dx ≠ y.dx ∨ x.dy ≠ y.dy ∨ x.t ≠ y.t ∨ x.f ≠ y.f := by
  by_cases a1 : x.dx = y.dx
  · by_cases a2 : x.dy = y.dy
    · by_cases a3 : x.t = y.t
      · by_cases a4 : x.f = y.f
        · exact absurd (mv_ext a1 a2 a3 a4) h
        · exact .inr (.inr (.inr a4))
      · exact .inr (.inr (.inl a3))
    · exact .inr (.inl a2)
  · exact .inl a1

set_option maxHeartbeats 4000000 in
set_option maxRecDepth 100000 in
theorem equalM_c (b1 o1 c1 b2 o2 c2 n : Nat) (l k : List Mv) (W : World) (hn : n ≤ 1000) (hl : n = l.length) (hk : n = k.length) (hb1 : b1 < W.heap.size) (hb2 : b2 < W.heap.size)
    (h1 : ∀ j m, l[j]? = some m → W.cell? ⟨b1, o1 + j * 4, none⟩ = some (.int .i64 m.dx) ∧ W.cell? ⟨b1, o1 + (j * 4 + 1), none⟩ = some (.int .i64 m.dy) ∧ W.cell? ⟨b1, o1 + (j * 4 + 2), none⟩ = some (.int .i64 m.t) ∧ W.cell? ⟨b1, o1 + (j * 4 + 3), none⟩ = some (.bool m.f))
    (h2 : ∀ j m, k[j]? = some m → W.cell? ⟨b2, o2 + j * 4, none⟩ = some (.int .i64 m.dx) ∧ W.cell? ⟨b2, o2 + (j * 4 + 1), none⟩ = some (.int .i64 m.dy) ∧ W.cell? ⟨b2, o2 + (j * 4 + 2), none⟩ = some (.int .i64 m.t) ∧ W.cell? ⟨b2, o2 + (j * 4 + 3), none⟩ = some (.bool m.f)) :
    Calls Try.prog 32 #[.slice (some ⟨b1, o1, none⟩) n c1, .slice (some ⟨b2, o2, none⟩) n c2] W fun e W' => e = .returned (.bool (decide (l = k))) ∧ Ext W W' := by
  have H1 := Lib.hid h1; have H2 := Lib.hid h2; have HL := Lib.hid hl; have HK := Lib.hid hk; clear h1 h2 hl hk
  go_enter Try.func32, Try.ntmps32
  go_wp2_with fail
  go_loopw [13] (fun i wr => ∃ j : Nat, i = .int .i64 j ∧ j ≤ n ∧ Ext W wr ∧ l.take j = k.take j) (fun i _ => n - (intOf i).toNat)
  case atStart => exact ⟨0, rfl, by omega, Ext.refl _, rfl⟩
  case round =>
    obtain ⟨j, rfl, hj, he, htk⟩ := hrel
    have HE := Lib.hid he; have HT := Lib.hid htk; clear he htk
    by_cases hlt : j < n
    · obtain ⟨x, hx⟩ : ∃ x, l[j]? = some x := ⟨l[j]'(by rw [← HL.out]; exact hlt), List.getElem?_eq_getElem _⟩
      obtain ⟨y, hy⟩ : ∃ y, k[j]? = some y := ⟨k[j]'(by rw [← HK.out]; exact hlt), List.getElem?_eq_getElem _⟩
      obtain ⟨a0, a1, a2, a3⟩ := H1.out j x hx
      obtain ⟨b0, b1', b2', b3⟩ := H2.out j y hy
      have d0 := keepAt HE.out hb1 a0; have d1 := keepAt HE.out hb1 a1; have d2 := keepAt HE.out hb1 a2; have d3 := keepAt HE.out hb1 a3
      have e0 := keepAt HE.out hb2 b0; have e1 := keepAt HE.out hb2 b1'; have e2 := keepAt HE.out hb2 b2'; have e3 := keepAt HE.out hb2 b3
      clear a0 a1 a2 a3 b0 b1' b2' b3
      rw [← Nat.add_assoc] at d1 d2 d3 e1 e2 e3
      have HX := Lib.hid hx; have HY := Lib.hid hy; clear hx hy
      by_cases hxy : x = y
      · subst hxy
        go_wp2_with fail
        go_quiet (fail)
        clear d0 d1 d2 d3 e0 e1 e2 e3
        go_wp2_with fail
        go_roundw
        case rel => exact ⟨j + 1, by go_num, by omega, Ext.drwN HE.out _, by rw [List.take_add_one, List.take_add_one, HT.out, HX.out, HY.out]⟩
        case measure => simp [intOf]; omega
      · have hd : decide (l = k) = false := by
          rw [decide_eq_false_iff_not]
          rintro rfl
          rw [HX.out] at HY
          have := HY.out
          injection this with this
          exact hxy this
        have HD := Lib.hid hd; clear hd
        have h4 := mv_ne4 hxy
        clear hxy
        obtain ⟨xx, xy, xt, xf⟩ := x
        obtain ⟨yx, yy, yt, yf⟩ := y
        simp only at h4 d0 d1 d2 d3 e0 e1 e2 e3
        rcases h4 with h4 | h4 | h4 | h4
        · go_wp2_with fail
          go_quiet (fail)
          go_wp2
          go_ret
          exact ⟨by rw [HD.out]; rfl, Ext.drwN HE.out _⟩
        · go_wp2_with fail
          go_quiet (fail)
          go_wp2
          go_ret
          exact ⟨by rw [HD.out]; rfl, Ext.drwN HE.out _⟩
        · go_wp2_with fail
          go_quiet (fail)
          go_wp2
          go_ret
          exact ⟨by rw [HD.out]; rfl, Ext.drwN HE.out _⟩
        · go_wp2_with fail
          go_quiet (fail)
          go_wp2
          go_ret
          exact ⟨by rw [HD.out]; rfl, Ext.drwN HE.out _⟩
    · obtain rfl : j = n := by omega
      have hd : decide (l = k) = true := by
        rw [decide_eq_true_iff]
        have := HT.out
        rwa [List.take_of_length_le (by rw [← HL.out]; exact Nat.le_refl _), List.take_of_length_le (by rw [← HK.out]; exact Nat.le_refl _)] at this
      have HD := Lib.hid hd; clear hd
      go_wp2
      go_ret
      exact ⟨by rw [HD.out]; rfl, HE.out⟩

set_option maxRecDepth 100000 in
theorem equalM_len (A B : Option Addr) (n c n' c' : Nat) (W : World) (hn : n ≤ 1000) (hn' : n' ≤ 1000) (hne : n ≠ n') :
    Calls Try.prog 32 #[.slice A n c, .slice B n' c'] W fun e W' => e = .returned (.bool false) ∧ Ext W W' := by
  have g0 : ((n : Int) != (n' : Int)) = true := by simp; omega
  clear hne
  go_enter Try.func32, Try.ntmps32
  go_wp2
  go_ret
  exact ⟨rfl, Ext.refl _⟩
set_option maxRecDepth 100000 in
theorem equalM_zero (A B : Option Addr) (c c' : Nat) (W : World) :
    Calls Try.prog 32 #[.slice A 0 c, .slice B 0 c'] W fun e W' => e = .returned (.bool true) ∧ Ext W W' := by
  go_enter Try.func32, Try.ntmps32
  go_wp2
  go_loopw [13] (fun i wr => i = .int .i64 0 ∧ wr = W) (fun _ _ => 0)
  case atStart => exact ⟨rfl, rfl⟩
  case round =>
    obtain ⟨rfl, rfl⟩ := hrel
    go_wp2
    go_ret
    exact ⟨rfl, Ext.refl _⟩
/-- slices.Equal of moves -/
theorem equalM_any (u v : Value) (l k : List Mv) (W : World) (hl : Ml W u l) (hk : Ml W v k) (h1 : l.length ≤ 1000) (h2 : k.length ≤ 1000) :
    Calls Try.prog 32 #[u, v] W fun e W' => e = .returned (.bool (decide (l = k))) ∧ Ext W W' := by
  obtain ⟨A, c, rfl, a1, a2, a4⟩ := hl
  obtain ⟨B, c', rfl, b1, b2, b4⟩ := hk
  by_cases hne : l.length = k.length
  · by_cases h0 : 0 < l.length
    · obtain ⟨p, off, rfl, hb, hc⟩ := a4 h0
      obtain ⟨q, off', rfl, hb', hc'⟩ := b4 (by omega)
      rw [← hne]
      exact equalM_c p off c q off' c' l.length l k W h1 rfl hne hb hb' hc hc'
    · have e1 : l = [] := List.eq_nil_of_length_eq_zero (by omega)
      have e2 : k = [] := List.eq_nil_of_length_eq_zero (by omega)
      subst e1 e2
      exact equalM_zero A B c c' W
  · have hd : decide (l = k) = false := by
      rw [decide_eq_false_iff_not]
      rintro rfl
      exact hne rfl
    rw [hd]
    exact equalM_len A B _ c _ c' W h1 h2 hne
end Go.Proofs.Ytgjanbgehbpciaa
namespace Go.Proofs.Ytgjanbgehbpciaa
open Go.RowKit

/-- the number of a move -/
def nm (w h : Nat) (m : Mv) : Nat := pos w h m.f.toNat m.t.toNat m.dx.toNat m.dy.toNat
theorem nm_bd {w h : Nat} {m : Mv} (hm : has w h m = true) : nm w h m < pos w h 2 0 0 0 := by
  rw [has_iff] at hm
  have h1 : m.f.toNat * 4 + m.t.toNat + 1 ≤ 8 := by cases m.f <;> simp <;> omega
  have h2 : (m.f.toNat * 4 + m.t.toNat) * w + m.dx.toNat + 1 ≤ 8 * w := by
    have := Nat.mul_le_mul_right w h1
    rw [Nat.succ_mul] at this
    omega
  have h3 := Nat.mul_le_mul_right h h2
  rw [Nat.succ_mul] at h3
  unfold nm pos
  simp only [Nat.reduceMul, Nat.add_zero]
  omega
theorem dec_nm {w h : Nat} {m : Mv} (hm : has w h m = true) : dec w h (nm w h m) = m := by
  rw [has_iff] at hm
  unfold nm
  rw [dec_pos (by cases m.f <;> simp) (by omega) (by omega) (by omega)]
  apply mv_ext
  · show ((m.dx.toNat : Nat) : Int) = m.dx; omega
  · show ((m.dy.toNat : Nat) : Int) = m.dy; omega
  · show ((m.t.toNat : Nat) : Int) = m.t; omega
  · show decide (m.f.toNat = 1) = m.f; cases m.f <;> rfl
theorem nm_dec {w h n : Nat} (hw : 1 ≤ w) (hh : 1 ≤ h) (hn : n < pos w h 2 0 0 0) : nm w h (dec w h n) = n := by
  unfold pos at hn
  simp only [Nat.reduceMul, Nat.add_zero] at hn
  have h1 : n / h < 8 * w := Nat.div_lt_of_lt_mul (by rw [Nat.mul_comm]; exact hn)
  have h2 : n / h / w < 8 := Nat.div_lt_of_lt_mul (by rw [Nat.mul_comm]; exact h1)
  have e1 : (decide (n / h / w / 4 = 1)).toNat * 4 + n / h / w % 4 = n / h / w := by
    generalize n / h / w = q at *
    rcases (by omega : q / 4 = 0 ∨ q / 4 = 1) with e | e
    · rw [e]; simp; omega
    · rw [e]; simp; omega
  unfold nm pos dec
  simp only [Int.toNat_natCast]
  rw [e1]
  have e2 : n / h / w * w + n / h % w = n / h := by rw [Nat.mul_comm]; exact Nat.div_add_mod _ _
  have e3 : n / h * h + n % h = n := by rw [Nat.mul_comm]; exact Nat.div_add_mod _ _
  rw [e2, e3]
theorem nm_inj {w h : Nat} {a b : Mv} (ha : has w h a = true) (hb : has w h b = true) (e : nm w h a = nm w h b) : a = b := by
  rw [← dec_nm ha, ← dec_nm hb, e]

/-- the parts of a number -/
theorem nm_parts {w h x y t : Nat} (hw : w ≤ 8) (hh : h ≤ 8) (ht : t < 4) (hx : x < w) (hy : y < h) :
    ((t : Int) * w = ((t * w : Nat) : Int) ∧ t * w ≤ 24) ∧ (((t : Int) * w + x) * h = (((t * w + x) * h : Nat) : Int) ∧ (t * w + x) * h ≤ 256) ∧ ((4 : Int) * w * h = ((4 * w * h : Nat) : Int) ∧ 4 * w * h ≤ 256) := by
  have a1 : t * w ≤ 3 * 8 := Nat.mul_le_mul (by omega) hw
  have a2 : (t * w + x) * h ≤ 32 * 8 := Nat.mul_le_mul (by omega) hh
  have a3 : 4 * w * h ≤ 32 * 8 := Nat.mul_le_mul (by omega) hh
  refine ⟨⟨by simp, a1⟩, ⟨by simp, a2⟩, ⟨by simp, a3⟩⟩
theorem nm_f {w h x y t : Nat} : (((t : Int) * w + x) * h + y) = ((nm w h ⟨x, y, t, false⟩ : Nat) : Int) := by
  simp [nm, pos]
theorem nm_t {w h x y t : Nat} : (((t : Int) * w + x) * h + y + 4 * w * h) = ((nm w h ⟨x, y, t, true⟩ : Nat) : Int) := by
  simp [nm, pos, Int.add_mul]
  omega

set_option maxHeartbeats 1000000 in
set_option maxRecDepth 100000 in
theorem numberR_c (w h x y t : Nat) (f : Bool) (W : World) (hw : w ≤ 8) (hh : h ≤ 8) (ht : t < 4) (hx : x < w) (hy : y < h) :
    Calls Try.prog 64 #[.int .i64 w, .int .i64 h, .agg #[.int .i64 x, .int .i64 y, .int .i64 t, .bool f]] W fun e W' => e = .returned (.int .i64 (nm w h ⟨x, y, t, f⟩ : Nat)) ∧ Ext W W' := by
  obtain ⟨⟨e1, b1⟩, ⟨e2, b2⟩, ⟨e3, b3⟩⟩ := nm_parts (y := y) hw hh ht hx hy
  have s1 : IntKind.i64.wrap ((t : Int) * w) = (t : Int) * w := IntWalk.i64_in _ (by omega)
  have s2 : IntKind.i64.wrap ((t : Int) * w + x) = (t : Int) * w + x := IntWalk.i64_in _ (by omega)
  have s3 : IntKind.i64.wrap (((t : Int) * w + x) * h) = ((t : Int) * w + x) * h := IntWalk.i64_in _ (by omega)
  have s4 : IntKind.i64.wrap (((t : Int) * w + x) * h + y) = ((t : Int) * w + x) * h + y := IntWalk.i64_in _ (by omega)
  have s5 : IntKind.i64.wrap (4 * (w : Int)) = 4 * (w : Int) := IntWalk.i64_in _ (by omega)
  have s6 : IntKind.i64.wrap (4 * (w : Int) * h) = 4 * (w : Int) * h := IntWalk.i64_in _ (by omega)
  have s7 : IntKind.i64.wrap (((t : Int) * w + x) * h + y + 4 * w * h) = ((t : Int) * w + x) * h + y + 4 * w * h := IntWalk.i64_in _ (by omega)
  clear e1 b1 e2 b2 e3 b3
  cases f
  · have E := Lib.hid (nm_f (w := w) (h := h) (x := x) (y := y) (t := t))
    go_enter Try.func64, Try.ntmps64
    go_wp2
    go_ret
    exact ⟨congrArg (fun z => Ending.returned (.int .i64 z)) E.out, al1 W _⟩
  · have E := Lib.hid (nm_t (w := w) (h := h) (x := x) (y := y) (t := t))
    go_enter Try.func64, Try.ntmps64
    go_wp2
    go_ret
    exact ⟨congrArg (fun z => Ending.returned (.int .i64 z)) E.out, al1 W _⟩

/-- the same, of the program: the turns behind a flip count from four on -/
theorem nm_f' {w h x y t : Nat} : (((t : Int) * w + x) * h + y) = ((nm w h ⟨x, y, t, false⟩ : Nat) : Int) := nm_f
theorem nm_t' {w h x y t : Nat} : ((((t : Int) + 4) * w + x) * h + y) = ((nm w h ⟨x, y, t, true⟩ : Nat) : Int) := by
  simp [nm, pos, Int.add_mul]
  omega
theorem nm_parts' {w h x y t : Nat} (hw : w ≤ 8) (hh : h ≤ 8) (ht : t < 8) (hx : x < w) (hy : y < h) :
    ((t : Int) * w = ((t * w : Nat) : Int) ∧ t * w ≤ 56) ∧ (((t : Int) * w + x) * h = (((t * w + x) * h : Nat) : Int) ∧ (t * w + x) * h ≤ 512) := by
  have a1 : t * w ≤ 7 * 8 := Nat.mul_le_mul (by omega) hw
  have a2 : (t * w + x) * h ≤ 64 * 8 := Nat.mul_le_mul (by omega) hh
  exact ⟨⟨by simp, a1⟩, ⟨by simp, a2⟩⟩

set_option maxHeartbeats 1000000 in
set_option maxRecDepth 100000 in
theorem number_c (w h x y t : Nat) (f : Bool) (W : World) (hw : w ≤ 8) (hh : h ≤ 8) (ht : t < 4) (hx : x < w) (hy : y < h) :
    Calls Try.prog 87 #[.agg #[.int .i64 w, .int .i64 h], .agg #[.int .i64 x, .int .i64 y, .int .i64 t, .bool f]] W fun e W' => e = .returned (.int .i64 (nm w h ⟨x, y, t, f⟩ : Nat)) ∧ Ext W W' := by
  cases f
  · obtain ⟨⟨e1, b1⟩, ⟨e2, b2⟩⟩ := nm_parts' (y := y) (t := t) hw hh (by omega) hx hy
    have s1 : IntKind.i64.wrap ((t : Int) * w) = (t : Int) * w := IntWalk.i64_in _ (by omega)
    have s2 : IntKind.i64.wrap ((t : Int) * w + x) = (t : Int) * w + x := IntWalk.i64_in _ (by omega)
    have s3 : IntKind.i64.wrap (((t : Int) * w + x) * h) = ((t : Int) * w + x) * h := IntWalk.i64_in _ (by omega)
    have s4 : IntKind.i64.wrap (((t : Int) * w + x) * h + y) = ((t : Int) * w + x) * h + y := IntWalk.i64_in _ (by omega)
    clear e1 b1 e2 b2
    have E := Lib.hid (nm_f (w := w) (h := h) (x := x) (y := y) (t := t))
    go_enter Try.func87, Try.ntmps87
    go_wp2
    go_ret
    exact ⟨congrArg (fun z => Ending.returned (.int .i64 z)) E.out, al2 W _ _⟩
  · obtain ⟨⟨e1, b1⟩, ⟨e2, b2⟩⟩ := nm_parts' (y := y) (t := t + 4) hw hh (by omega) hx hy
    have e0 : ((t + 4 : Nat) : Int) = (t : Int) + 4 := by simp
    rw [e0] at e1 e2
    have s1 : IntKind.i64.wrap (((t : Int) + 4) * w) = ((t : Int) + 4) * w := IntWalk.i64_in _ (by omega)
    have s2 : IntKind.i64.wrap (((t : Int) + 4) * w + x) = ((t : Int) + 4) * w + x := IntWalk.i64_in _ (by omega)
    have s3 : IntKind.i64.wrap ((((t : Int) + 4) * w + x) * h) = (((t : Int) + 4) * w + x) * h := IntWalk.i64_in _ (by omega)
    have s4 : IntKind.i64.wrap ((((t : Int) + 4) * w + x) * h + y) = (((t : Int) + 4) * w + x) * h + y := IntWalk.i64_in _ (by omega)
    clear e1 b1 e2 b2 e0
    have E := Lib.hid (nm_t' (w := w) (h := h) (x := x) (y := y) (t := t))
    go_enter Try.func87, Try.ntmps87
    go_wp2
    go_ret
    exact ⟨congrArg (fun z => Ending.returned (.int .i64 z)) E.out, al2 W _ _⟩

theorem numberR_any (w h : Nat) (m : Mv) (W : World) (hs : okSize w h = true) (hm : has w h m = true) :
    Calls Try.prog 64 #[.int .i64 w, .int .i64 h, .agg #[.int .i64 m.dx, .int .i64 m.dy, .int .i64 m.t, .bool m.f]] W fun e W' => e = .returned (.int .i64 (nm w h m : Nat)) ∧ Ext W W' := by
  rw [okSize_iff] at hs
  rw [has_iff] at hm
  obtain ⟨dx, dy, t, f⟩ := m
  simp only at hm
  obtain ⟨x, rfl⟩ : ∃ x : Nat, dx = x := ⟨dx.toNat, by omega⟩
  obtain ⟨y, rfl⟩ : ∃ y : Nat, dy = y := ⟨dy.toNat, by omega⟩
  obtain ⟨n, rfl⟩ : ∃ n : Nat, t = n := ⟨t.toNat, by omega⟩
  exact numberR_c w h x y n f W (by omega) (by omega) (by omega) (by omega) (by omega)
theorem number_any (w h : Nat) (m : Mv) (W : World) (hs : okSize w h = true) (hm : has w h m = true) :
    Calls Try.prog 87 #[.agg #[.int .i64 w, .int .i64 h], .agg #[.int .i64 m.dx, .int .i64 m.dy, .int .i64 m.t, .bool m.f]] W fun e W' => e = .returned (.int .i64 (nm w h m : Nat)) ∧ Ext W W' := by
  rw [okSize_iff] at hs
  rw [has_iff] at hm
  obtain ⟨dx, dy, t, f⟩ := m
  simp only at hm
  obtain ⟨x, rfl⟩ : ∃ x : Nat, dx = x := ⟨dx.toNat, by omega⟩
  obtain ⟨y, rfl⟩ : ∃ y : Nat, dy = y := ⟨dy.toNat, by omega⟩
  obtain ⟨n, rfl⟩ : ∃ n : Nat, t = n := ⟨t.toNat, by omega⟩
  exact number_c w h x y n f W (by omega) (by omega) (by omega) (by omega) (by omega)

set_option maxRecDepth 100000 in
theorem numbers_any (w h : Nat) (W : World) (hw : w ≤ 8) (hh : h ≤ 8) :
    Calls Try.prog 84 #[.agg #[.int .i64 w, .int .i64 h]] W fun e W' => e = .returned (.int .i64 (pos w h 2 0 0 0 : Nat)) ∧ Ext W W' := by
  have a1 : 8 * w ≤ 64 := by omega
  have a2 : 8 * w * h ≤ 64 * 8 := Nat.mul_le_mul a1 hh
  have e2 : (8 : Int) * w * h = ((8 * w * h : Nat) : Int) := by simp
  have s1 : IntKind.i64.wrap (8 * (w : Int)) = 8 * (w : Int) := IntWalk.i64_in _ (by omega)
  have s2 : IntKind.i64.wrap (8 * (w : Int) * h) = 8 * (w : Int) * h := IntWalk.i64_in _ (by omega)
  have e3 : (8 : Int) * w * h = ((pos w h 2 0 0 0 : Nat) : Int) := by simp [pos]
  have E := Lib.hid e3
  clear e2 e3 a1 a2
  go_enter Try.func84, Try.ntmps84
  go_wp2
  go_ret
  exact ⟨congrArg (fun z => Ending.returned (.int .i64 z)) E.out, al1 W _⟩
end Go.Proofs.Ytgjanbgehbpciaa
