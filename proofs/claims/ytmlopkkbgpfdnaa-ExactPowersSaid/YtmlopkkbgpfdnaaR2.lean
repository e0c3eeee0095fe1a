/- Walks: the reference's naturals: natural, plus. -/
import Derived.Test.YtmlopkkbgpfdnaaR1
namespace Go.Proofs.Ytmlopkkbgpfdnaa
open Go.RowKit

def uw (x : Nat) : Value := .int .u32 (x : Int)

theorem Wd.of_own {w : World} {base : Nat} {v : Value} {ds : List Nat} (h : w.ownsRow base 66 1 v ds.length (ds.map uw)) (ho : Ok ds) : Wd w v ds := by
  have h0 := h
  obtain ⟨h1, h2 | ⟨g, cap, cur, rfl, hg, hh, hn, hcap, hsz, htake⟩⟩ := h
  · obtain ⟨rfl, hn⟩ := h2
    have : ds = [] := List.eq_nil_of_length_eq_zero hn
    subst this
    exact Wd.nil_ w
  · refine ⟨some ⟨g, 0, none⟩, cap, rfl, hn, by unfold maxLen at hcap; omega, ho, fun hp => ⟨g, 0, rfl, (Array.getElem?_eq_some_iff.1 hh).1, fun j hj => ?_⟩⟩
    have := h0.cells (g := g) rfl j (uw (ds.getD j 0)) (by
      rw [List.getElem?_map, List.getElem?_eq_getElem hj]
      simp [List.getD_eq_getElem?_getD, List.getElem?_eq_getElem hj])
    have e : (⟨g, 0, none⟩ : Addr).add j = ⟨g, 0 + j, none⟩ := by unfold Addr.add; split <;> simp_all
    rw [← e]
    exact this

set_option maxHeartbeats 400000 in
set_option maxRecDepth 100000 in
/-- ref natural -/
theorem naturalR_any (n : Nat) (hn : n < 18446744073709551616) (w : World) :
    Calls Try.prog 55 #[.int .u64 n] w fun e w' => ∃ u, e = .returned u ∧ Wd w' u (dig n) ∧ Below w.heap.size w w' := by
  obtain ⟨i0, hi, hz0, hz1, hz2⟩ := info_parts info66
  have hd2 : (dig n).length ≤ 2 := dig_len_le (by omega)
  go_enter Try.func55, Try.ntmps55
  go_wp2
  go_loopw [0, 3] (fun mv v wr => ∃ (m : Nat) (ds : List Nat), mv = .int .u64 m ∧ m ≤ n ∧ Ok ds ∧ wr.ownsRow w.heap.size 66 1 v ds.length (ds.map uw) ∧ Below w.heap.size w wr ∧ ds ++ dig m = dig n)
    (fun mv _ _ => (intOf mv).toNat)
  case atStart => exact ⟨n, [], rfl, Nat.le_refl _, Ok.nil, World.ownsRow_nil _ _ _ _, Below.refl _ _, rfl⟩
  case round =>
    obtain ⟨m, ds, rfl, hm, hok, hown, hbel, hds⟩ := hrel
    have hl : ds.length + (dig m).length ≤ 2 := by rw [← List.length_append, hds]; exact hd2
    have Hds := Lib.hid hds; clear hds
    have Hok := Lib.hid hok; clear hok
    by_cases hm0 : m = 0
    · subst hm0
      have hw := Wd.of_own hown Hok.out
      have he : ds = dig n := by have := Hds.out; rwa [dig_zero, List.append_nil] at this
      rw [he] at hw
      have Hw := Lib.hid hw; clear hw he
      go_wp2
      go_ret
      exact ⟨_, rfl, Hw.out, hbel⟩
    · have hm1 : 0 < m := by omega
      have hl1 : ds.length ≤ 2 := by omega
      clear hl
      go_wp2_with (at_builtin; refine wpList_append_own _ rfl _ _ 32 rfl w.heap.size 66 i0 (.int .u32 0) 1 4 Try.underlying32 hi hz0 hz1 hz2 rfl (by decide) _ _ _ rfl (hown.alloc _) ⟨wr.heap.size, 0, none⟩ 1 1 [uw (m % 4294967296)] rfl rfl ?c1 ?c2 ?c3 ?c4 ?c5 ?_)
      case c1 =>
        intro j u hj
        match j, hj with
        | 0, hj => simp at hj; subst hj; simp [Addr.add, uw]
      case c2 => intro u hu; simp at hu; subst hu; rfl
      case c3 => unfold maxLen; omega
      case c4 => omega
      case c5 => have := hbel.size; simp; omega
      intro v' w1 hown' hgrow _
      have hb1 : Below w.heap.size w w1 := (hbel.alloc hbel.size _).grown hgrow (by have := hbel.size; simp; omega) (fun k hk => (hown.lt k hk).1)
      have hown2 : w1.ownsRow w.heap.size 66 1 v' (ds ++ [m % 4294967296]).length ((ds ++ [m % 4294967296]).map uw) := by
        rw [List.length_append, List.map_append]; exact hown'
      have Ho := Lib.hid hown2; clear hown2 hown' hgrow hown hbel
      go_wp2
      go_roundw
      case rel =>
        refine ⟨m / 4294967296, ds ++ [m % 4294967296], by simp, by omega, Hok.out.append (Ok.mk (by omega) Ok.nil), Ho.out, hb1, ?_⟩
        rw [← Hds.out, dig_pos hm1]
        simp
      case measure => simp [intOf]; omega
end Go.Proofs.Ytmlopkkbgpfdnaa
