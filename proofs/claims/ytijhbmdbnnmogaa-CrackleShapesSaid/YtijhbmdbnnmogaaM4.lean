/- Walks: remove. · Walks: the numbers behind an edge that is taken out, hasEdge. -/
import Derived.Test.YtijhbmdbnnmogaaM3
import Derived.Deep.LoopGhost
namespace Go.Proofs.Ytijhbmdbnnmogaa.G
open Go.RowKit

set_option maxRecDepth 100000 in
theorem zero3 (w : World) : (zeroValue 3).run Try.prog w = .ok (.int .i64 0) w := by kernel_rfl

set_option maxHeartbeats 4000000 in
set_option maxRecDepth 100000 in
theorem remove_any (b N n : Nat) (P : Nat → Bool) (g : Nat → Nat) (d : Nat) (W : World) (hb : Mb W b N n P g) (hr : Ro n P g) (hd : d < n) (hp : P d = true) (hn : n ≤ 100) (hN : N ≤ 1000) :
    Calls Try.prog 50 #[.map (some b), .int .i64 d] W fun e W' => (∃ v, e = .returned v) ∧ Mb W' b (N + 1) n (bt P d) (rm g d) ∧ W.grownBy W' (some b) := by
  obtain ⟨k0, hk1, hk2, hk3, hk4⟩ := hr.back hd hp
  obtain ⟨D, hown, hmv⟩ := hb
  have hrd := hr.lt
  have look : ∀ x, x < n → P x = true → (Instr.lookup 80 (.map (some b)) (.int .i64 (x : Nat)) false).run Try.prog W = .ok (.int .i64 (g x : Nat)) W := fun x hx hpx => by
    obtain ⟨c, h1, h2, -⟩ := hown.lookup_int law3 Try.underlying80 Try.underlying3 (zero3 W) (kl_key x (by omega))
    rw [hmv.at_ x hx hpx] at h2
    have : c = (g x : Nat) := by unfold vl at h2; injection h2 with h2; injection h2 with _ h2; exact h2.symm
    rw [this] at h1
    exact h1
  have hall : ∀ j, G.itr g j d < n ∧ P (G.itr g j d) = true := fun j => by
    induction j with
    | zero => exact ⟨hd, hp⟩
    | succ j ih => exact hrd _ ih.1 ih.2
  have HL := Lib.hid look; have HA := Lib.hid hall; have HK := Lib.hid (And.intro hk1 (And.intro hk2 (And.intro hk3 hk4))); have HD := Lib.hid (And.intro hown hmv)
  have HR := Lib.hid (And.intro hr hp)
  clear look hall hk1 hk2 hk3 hk4 hown hmv hr hp hrd
  go_enter Try.func50, Try.ntmps50
  go_upto_region 1 with fail
  go_loopg [4] k0 (fun k v wr => ∃ (j x : Nat), v = .int .i64 (x : Nat) ∧ j + k = k0 ∧ Hid (x = G.itr g j d) ∧ wr = W)
  case atStart => exact ⟨0, d, rfl, by omega, Lib.hid rfl, rfl⟩
  case round =>
    obtain ⟨j, x, rfl, hj, hx, rfl⟩ := hrel
    obtain ⟨hxn, hpx⟩ := HA.out j
    rw [← hx.out] at hxn hpx
    have l1 := HL.out x hxn hpx
    obtain ⟨y, hy⟩ : ∃ y, y = g x := ⟨_, rfl⟩
    rw [← hy] at l1
    have HY := Lib.hid hy
    clear hy
    by_cases hyd : y = d
    · subst hyd
      have hne : ((y : Int) != (y : Int)) = false := by simp
      obtain ⟨z, hz⟩ : ∃ z, z = g y := ⟨_, rfl⟩
      have l2 := HL.out y hd HR.out.2
      rw [← hz] at l2
      have HZ := Lib.hid hz
      have hb2 := (HR.out.1.lt y hd HR.out.2).1
      rw [← hz] at hb2
      clear hz
      go_wp2_with (first | (at_mapUpdate; refine wpList_mapUpdate_own _ rfl _ _ _ 80 rfl 3 3 law3 Try.underlying80 (plainElem Try.prog 3) b N D rfl HD.out.1 (by unfold maxLen; omega) _ _ (kl x) rfl rfl (kl_key x (by omega)) (vl z) [] (vl_elem z (by omega)) ?_) | fail)
      intro w1 hown1 hg1
      have hm1 := HD.out.2.put (v := z) hxn
      have H1 := Lib.hid (And.intro hown1 (And.intro hm1 hg1))
      clear hown1 hm1 hg1 l1 l2
      go_wp2_with (first | (at_delete; refine wpList_delete_own _ rfl _ _ 80 3 rfl 3 law3 Try.underlying80 (plainElem Try.prog 3) b (N + 1) (D.put (kl x) (vl z)) rfl H1.out.1 _ (kl y) rfl (kl_key y (by omega)) ?_) | fail)
      intro w2 hown2 hturn
      have hpy : up P x true y = true := by
        by_cases e : y = x
        · subst e; exact up_self _ _ _
        · rw [up_ne _ _ e]; exact HR.out.2
      have hm2 := (H1.out.2.1.del hd hpy).congr (P' := bt P y) (g' := rm g y) (fun r _ => by
          unfold bt
          congr 1
          by_cases e : r = x
          · subst e; rw [up_self, hpx]
          · rw [up_ne _ _ e]) (fun r hr hbr => by
          by_cases e : r = x
          · subst e; rw [up_self]; unfold rm; rw [if_pos HY.out.symm, HZ.out]
          · rw [up_ne _ _ e]
            obtain ⟨h1, h2⟩ := bt_iff.1 hbr
            rw [up_ne _ _ e] at h1
            unfold rm
            rw [if_neg (fun c => e (HR.out.1.inj r x hr hxn h1 hpx (c.trans HY.out)))])
      have HF := Lib.hid (And.intro hown2 (And.intro hm2 (H1.out.2.2.trans hturn.grown)))
      clear hown2 hm2 hturn hpy
      go_wp2
      refine bodyPost_end (v := .tuple #[]) (results_none (by rfl) _ _ _) rfl ?_
      exact ⟨⟨_, rfl⟩, ⟨_, HF.out.1, HF.out.2.1⟩, HF.out.2.2⟩
    · have hne : ((y : Int) != (d : Int)) = true := by simp; omega
      have hjk : j < k0 := by
        rcases Nat.lt_or_ge j k0 with h | h
        · exact h
        · exfalso
          obtain rfl : j = k0 := by omega
          exact hyd (by rw [HY.out, hx.out]; exact HK.out.2.2.1)
      go_wp2
      go_roundg (gk - 1)
      case measure => omega
      case rel => exact ⟨j + 1, y, rfl, by omega, Lib.hid (by rw [HY.out, hx.out]; rfl), rfl⟩
end Go.Proofs.Ytijhbmdbnnmogaa.G
namespace Go.Proofs.Ytijhbmdbnnmogaa.G
open Go.RowKit

set_option maxHeartbeats 4000000 in
set_option maxRecDepth 100000 in
theorem number_any (e d bk : Nat) (W : World) (hb : W.cell? ⟨bk, 0, none⟩ = some (.int .i64 (e : Nat))) (he : e ≤ 1000) (hd : d ≤ 1000) (hne : d ≠ 2 * e + 1) :
    Calls Try.prog 51 #[.int .i64 d, .pointer (some ⟨bk, 0, none⟩)] W fun r W' => r = .returned (.int .i64 (nu e d : Nat)) ∧ W = W' := by
  have hnu : ((nu e d : Nat) : Int) = if (2 * (e : Int)) < (d : Int) then (d : Int) - 2 else (d : Int) := by
    unfold nu
    split <;> split <;> omega
  have HNU := Lib.hid hnu
  clear hnu
  by_cases h : 2 * (e : Int) < (d : Int)
  · go_enter Try.func51, Try.ntmps51
    go_wp2
    go_ret
    exact ⟨by rw [HNU.out, if_pos (by omega)]; rfl, rfl⟩
  · go_enter Try.func51, Try.ntmps51
    go_wp2
    go_ret
    exact ⟨by rw [HNU.out, if_neg (by omega)]; rfl, rfl⟩

set_option maxHeartbeats 4000000 in
set_option maxRecDepth 100000 in
theorem hasEdge_any (n : Nat) (f : Nat → Int) (NV : Value) (x : Int) (W : World) (hN : Il W NV n f) (hn : n ≤ 1000) :
    Calls Try.prog 41 #[.agg #[NV], .int .i64 x] W fun e W' => e = .returned (.bool (decide (0 ≤ x) && decide (x ≤ ((n / 2 : Nat) : Int) - 1))) ∧ Ext W W' := by
  have HN := Lib.hid hN
  obtain ⟨A, c, rfl, hac, hcm, -⟩ := hN
  obtain ⟨q, hq⟩ : ∃ q, q = n / 2 := ⟨_, rfl⟩
  rw [← hq]
  have hq2 : q ≤ 1000 := by omega
  have HQ := Lib.hid hq
  clear hq
  go_enter Try.func41, Try.ntmps41
  go_upto_region 1 with fail
  have bb := al1 W (.cells #[.slice A n c] 28)
  obtain ⟨m0, -, mz⟩ := uno (heap_alloc_new W (.cells #[.slice A n c] 28))
  generalize W.alloc (.cells #[.slice A n c] 28) = W1 at *
  have HB : Hid (Ext W W1) := Lib.hid bb
  clear bb
  go_wp2_with fail
  refine (edges_any n f _ _ (HN.out.ext HB.out) hn).mono ?_
  rintro e w2 ⟨rfl, hx⟩
  rw [← HQ.out]
  have HX := Lib.hid (HB.out.trans hx)
  clear hx m0
  go_wp2_with fail
  refine (isBetween_any _ _ _ _).mono ?_
  rintro e w3 ⟨rfl, rfl⟩
  obtain ⟨r, hr⟩ : ∃ r, r = (decide (0 ≤ x) && decide (x ≤ (q : Int) - 1)) := ⟨_, rfl⟩
  rw [← hr]
  have HR := Lib.hid hr
  clear hr
  go_wp2
  go_ret
  exact ⟨by rw [HR.out]; rfl, HX.out⟩
end Go.Proofs.Ytijhbmdbnnmogaa.G
