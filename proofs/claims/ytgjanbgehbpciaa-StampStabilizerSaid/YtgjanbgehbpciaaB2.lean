/- Walks: ownMoves of the law. -/
import Derived.Test.YtgjanbgehbpciaaB1
namespace Go.Proofs.Ytgjanbgehbpciaa
open Go.RowKit

set_option maxHeartbeats 4000000 in
set_option maxRecDepth 100000 in
theorem ownMoves_c (b off n c : Nat) (l : List Mv) (W : World) (hn : n = l.length) (hnc : n ≤ c) (hn1 : n ≤ 1000) (hcm : c ≤ 9223372036854775807) (hb : b < W.heap.size)
    (hc : ∀ j m, l[j]? = some m → W.cell? ⟨b, off + j * 4, none⟩ = some (.int .i64 m.dx) ∧ W.cell? ⟨b, off + (j * 4 + 1), none⟩ = some (.int .i64 m.dy) ∧ W.cell? ⟨b, off + (j * 4 + 2), none⟩ = some (.int .i64 m.t) ∧ W.cell? ⟨b, off + (j * 4 + 3), none⟩ = some (.bool m.f)) :
    Calls Try.prog 33 #[.slice (some ⟨b, off, none⟩) n c] W fun e W' => ∃ v, e = .returned v ∧ Ml W' v l ∧ Ext W W' := by
  obtain ⟨i0, hi, hz0, hz1, hz2⟩ := info_parts info26
  have HC := Lib.hid hc; have HN := Lib.hid hn; clear hc hn
  go_enter Try.func33, Try.ntmps33
  go_wp2_with fail
  go_loopw [3, 8] (fun v i wr => ∃ k : Nat, i = .int .i64 k ∧ k ≤ n ∧ PR W 26 l k v wr) (fun _ i _ => n - (intOf i).toNat)
  case atStart => exact ⟨0, rfl, by omega, PR.zero W 26 l⟩
  case round =>
    obtain ⟨k, rfl, hk, hp⟩ := hrel
    have HP := Lib.hid hp; clear hp
    by_cases hlt : k < n
    · obtain ⟨m, hm⟩ : ∃ m, l[k]? = some m := ⟨l[k]'(by rw [← HN.out]; exact hlt), List.getElem?_eq_getElem _⟩
      obtain ⟨c0, c1, c2, c3⟩ := HC.out k m hm
      have d0 := keepAt HP.out.2 hb c0; have d1 := keepAt HP.out.2 hb c1; have d2 := keepAt HP.out.2 hb c2; have d3 := keepAt HP.out.2 hb c3
      clear c0 c1 c2 c3
      have HM := Lib.hid hm; clear hm
      rw [← Nat.add_assoc] at d1 d2 d3
      go_wp2_with fail
      refine (ownMove_any m _).mono ?_
      rintro e V ⟨rfl, hx⟩
      have e1 : Ext wr V := nx ((Ext.refl wr).alc _) hx
      have E1 := Lib.hid e1; clear e1 hx d0 d1 d2 d3
      have hown := (World.ownsRow.ext HP.out.1 E1.out).alloc (.cells #[.int .i64 m.dx, .int .i64 m.dy, .int .i64 m.t, .bool m.f] 26)
      have hbase := HP.out.2.size
      have hsz := E1.out.size
      go_wp2_with (at_builtin; refine wpList_append_own _ rfl _ _ 50 rfl W.heap.size 26 i0 (.agg #[.int .i64 0, .int .i64 0, .int .i64 0, .bool false]) 4 32 Try.underlying50 hi hz0 hz1 hz2 rfl (by decide) _ _ _ rfl hown ⟨V.heap.size, 0, none⟩ 1 1 (mc m) rfl rfl ?c1 ?c2 ?c3 ?c4 ?c5 ?_)
      case c1 =>
        intro j u hj
        match j, hj with
        | 0, hj => simp [mc] at hj; subst hj; simp [Addr.add]
        | 1, hj => simp [mc] at hj; subst hj; simp [Addr.add]
        | 2, hj => simp [mc] at hj; subst hj; simp [Addr.add]
        | 3, hj => simp [mc] at hj; subst hj; simp [Addr.add]
        | j + 4, hj => simp [mc] at hj
      case c2 => intro u hu; simp [mc] at hu; rcases hu with rfl | rfl | rfl | rfl <;> rfl
      case c3 => unfold maxLen; omega
      case c4 => omega
      case c5 => simp; omega
      intro v' w9 hown' hgrow _
      have hpn : PR W 26 l (k + 1) v' w9 := PR.next HM.out (by omega) (HP.out.2.trans E1.out) hown hown' hgrow
      have HP2 := Lib.hid hpn
      clear hpn hown hown' hgrow
      go_wp2_with fail
      go_roundw
      case rel => exact ⟨k + 1, by go_num, by omega, HP2.out⟩
      case measure => simp [intOf]; omega
    · obtain rfl : k = n := by omega
      go_wp2
      go_ret
      refine ⟨_, rfl, ?_, HP.out.2⟩
      have := HP.out.ml (by rw [← HN.out]; exact Nat.le_refl _)
      rwa [List.take_of_length_le (by rw [← HN.out]; exact Nat.le_refl _)] at this

set_option maxRecDepth 100000 in
theorem ownMoves_nil (A : Option Addr) (c : Nat) (W : World) :
    Calls Try.prog 33 #[.slice A 0 c] W fun e W' => e = .returned (.slice none 0 0) ∧ Ext W W' := by
  go_enter Try.func33, Try.ntmps33
  go_wp2_with fail
  go_loopw [3, 8] (fun v i wr => v = .slice none 0 0 ∧ i = .int .i64 0 ∧ wr = W) (fun _ _ _ => 0)
  case atStart => exact ⟨rfl, rfl, rfl⟩
  case round =>
    obtain ⟨rfl, rfl, rfl⟩ := hrel
    go_wp2
    go_ret
    exact ⟨rfl, Ext.refl _⟩
theorem ownMoves_any (A : Option Addr) (n c : Nat) (l : List Mv) (W : World) (h : Ml W (.slice A n c) l) (h1000 : l.length ≤ 1000) :
    Calls Try.prog 33 #[.slice A n c] W fun e W' => ∃ v, e = .returned v ∧ Ml W' v l ∧ Ext W W' := by
  obtain ⟨hn, h1, h2, h4⟩ := h.mi
  by_cases h0 : 0 < n
  · obtain ⟨b, off, rfl, hb, hc⟩ := h4 h0
    exact ownMoves_c b off n c l W hn h1 (by omega) h2 hb hc
  · obtain rfl : n = 0 := by omega
    have hl : l = [] := List.eq_nil_of_length_eq_zero hn.symm
    subst hl
    refine (ownMoves_nil A c W).mono ?_
    rintro e W' ⟨rfl, hx⟩
    exact ⟨_, rfl, Ml.nil_ _, hx⟩
end Go.Proofs.Ytgjanbgehbpciaa
