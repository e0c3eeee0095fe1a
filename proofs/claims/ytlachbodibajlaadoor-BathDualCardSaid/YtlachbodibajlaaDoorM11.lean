/- Walks: the law BathDual. -/
import Derived.Test.YtlachbodibajlaaDoorM10
import Derived.Test.YtlachbodibajlaaDoorM8
namespace Go.Proofs.YtlachbodibajlaaDoor
open Go.RowKit Go.Shelf

theorem sl2 (u v : List UInt8) (W : World) : Sl (W.alloc (.cells #[.string ⟨u.toArray⟩, .string ⟨v.toArray⟩] 9)) (.slice (some ⟨W.heap.size, 0, none⟩) 2 2) [u, v] := by
  have hb := heap_alloc_new W (.cells #[.string ⟨u.toArray⟩, .string ⟨v.toArray⟩] 9)
  refine ⟨_, 2, rfl, Nat.le_refl 2, by decide, fun _ => ⟨W.heap.size, 0, rfl, (Array.getElem?_eq_some_iff.1 hb).1, fun j hj => ?_⟩⟩
  have hj2 : j < 2 := hj
  rcases (show j = 0 ∨ j = 1 by omega) with rfl | rfl
  · exact (cell_of_row _ _ _ _ 9 (0, 0) hb).trans rfl
  · exact (cell_of_row _ _ _ _ 9 (0, 0) hb).trans rfl
theorem sl3 (u v x : List UInt8) (W : World) : Sl (W.alloc (.cells #[.string ⟨u.toArray⟩, .string ⟨v.toArray⟩, .string ⟨x.toArray⟩] 9)) (.slice (some ⟨W.heap.size, 0, none⟩) 3 3) [u, v, x] := by
  have hb := heap_alloc_new W (.cells #[.string ⟨u.toArray⟩, .string ⟨v.toArray⟩, .string ⟨x.toArray⟩] 9)
  refine ⟨_, 3, rfl, Nat.le_refl 3, by decide, fun _ => ⟨W.heap.size, 0, rfl, (Array.getElem?_eq_some_iff.1 hb).1, fun j hj => ?_⟩⟩
  have hj2 : j < 3 := hj
  rcases (show j = 0 ∨ j = 1 ∨ j = 2 by omega) with rfl | rfl | rfl
  · exact (cell_of_row _ _ _ _ 9 (0, 0) hb).trans rfl
  · exact (cell_of_row _ _ _ _ 9 (0, 0) hb).trans rfl
  · exact (cell_of_row _ _ _ _ 9 (0, 0) hb).trans rfl
theorem okWs2 (u v : List UInt8) : okWs [u, v] = (okWd u && okWd v) := by simp [okWs]
theorem okWs3 (u v x : List UInt8) : okWs [u, v, x] = ((okWd u && okWd v) && okWd x) := by simp [okWs, Bool.and_assoc]
theorem okWd_iff {u : List UInt8} : okWd u = true ↔ u.length ≤ 8 ∧ ∀ c ∈ u, c ∈ Bw.letters := by unfold okWd; rw [Bool.and_eq_true, decide_eq_true_eq, okL_iff]

set_option maxHeartbeats 4000000 in
set_option maxRecDepth 100000 in
theorem bathDual_walk (u v x : List UInt8) (W : World) (hu : u.length ≤ 9223372036854775807) (hv : v.length ≤ 9223372036854775807) (hx : x.length ≤ 9223372036854775807) :
    Calls Tryd.prog 8 #[.string ⟨u.toArray⟩, .string ⟨v.toArray⟩, .string ⟨x.toArray⟩] W fun e W' => e = .returned (.bool true) ∧ Ext W W' := by
  have s2 : Sm [u, v] := fun s h => by simp at h; rcases h with rfl | rfl <;> assumption
  have s3 : Sm [u, v, x] := fun s h => by simp at h; rcases h with rfl | rfl | rfl <;> assumption
  have C1 := Lib.hid fun X V h => shortest_any [u, v] V X h s2
  have C2 := Lib.hid fun X => common_any u v X hu hv
  have C3 := Lib.hid fun X V h => shortest_any [u, v, x] V X h s3
  have C4 := Lib.hid fun X => wordR_any x X hx
  have A2 := Lib.hid (sl2 u v); have A3 := Lib.hid (sl3 u v x)
  cases hok : (okWd u && okWd v)
  · have h1 : shS [u, v] = [] := by unfold shS; rw [okWs2, hok]; rfl
    have h2 : shE [u, v] = 2 := by unfold shE; rw [okWs2, hok]; rfl
    have h3 : coS u v = [] := by unfold coS; rw [hok]; rfl
    have h4 : coE u v = 2 := by unfold coE; rw [hok]; rfl
    rw [h1, h2] at C1
    rw [h3, h4] at C2
    clear h1 h2 h3 h4 hok s2 s3 hu hv hx
    go_enter Tryd.func8, Tryd.ntmps8
    have e1 : Hid (Ext W (W.alloc (.cells #[.string ⟨u.toArray⟩, .string ⟨v.toArray⟩] 9))) := Lib.hid (al1 W _)
    go_wp2_with fail
    refine (C1.out _ _ (A2.out W)).mono ?_
    rintro e w1 ⟨rfl, hx⟩
    have HX := Lib.hid (e1.out.trans hx); clear hx
    go_wp2_with fail
    refine (C2.out _).mono ?_
    rintro e w2 ⟨rfl, hx⟩
    replace HX := Lib.hid (HX.out.trans hx); clear hx
    go_wp2_with fail
    refine (awake_any _).mono ?_
    rintro e w3 ⟨rfl, hx⟩
    replace HX := Lib.hid (HX.out.trans hx); clear hx
    go_wp2
    go_ret
    exact ⟨rfl, HX.out⟩
  · have hok2 := hok
    rw [Bool.and_eq_true] at hok2
    obtain ⟨hu8, hul⟩ := okWd_iff.1 hok2.1
    obtain ⟨hv8, hvl⟩ := okWd_iff.1 hok2.2
    have h1 : shS [u, v] = (Bw.rest [u, v] 0).1 := by unfold shS; rw [okWs2, hok]; rfl
    have h2 : shE [u, v] = 0 := by unfold shE; rw [okWs2, hok]; rfl
    have h3 : coS u v = Bw.cm u v := by unfold coS; rw [hok]; rfl
    have h4 : coE u v = 0 := by unfold coE; rw [hok]; rfl
    have hd := Bw.dual hul hvl
    have hW2 : Bw.okW [u, v] := by
      intro w hw
      simp at hw
      rcases hw with rfl | rfl
      · exact hul
      · exact hvl
    have hm : okWd x = true → shE [u, v, x] = 0 ∧ (Bw.rest [u, v] 0).1.length ≤ (shS [u, v, x]).length ∧ (shS [u, v, x]).length ≤ 32 := fun h => by
      have hok3 : okWs [u, v, x] = true := by rw [okWs3, hok, h]; rfl
      obtain ⟨-, h4', h8', hW3⟩ := okWs_iff.1 hok3
      have e1 : shE [u, v, x] = 0 := by unfold shE; rw [hok3]; rfl
      have e2 : shS [u, v, x] = (Bw.rest [u, v, x] 0).1 := by unfold shS; rw [hok3]; rfl
      rw [e2]
      refine ⟨e1, Bw.rest_mono hW2 hW3 (fun w hw => by simp at hw ⊢; rcases hw with h | h; exact .inl h; exact .inr (.inl h)), ?_⟩
      exact Nat.le_trans (Bw.rest_len hW3 _ 0 (Bw.sz_pos _) (Nat.le_refl _)) (Bw.rem_zero_le _ h4' h8' 0)
    have hn : okWd x = false → shE [u, v, x] = 2 := fun h => by
      unfold shE; rw [okWs3, hok, h]; rfl
    rw [h1, h2] at C1
    rw [h3, h4] at C2
    obtain ⟨s, hs⟩ : ∃ s, s = (Bw.rest [u, v] 0).1 := ⟨_, rfl⟩
    obtain ⟨c, hc⟩ : ∃ c, c = Bw.cm u v := ⟨_, rfl⟩
    obtain ⟨t, ht⟩ : ∃ t, t = shS [u, v, x] := ⟨_, rfl⟩
    obtain ⟨er, her⟩ : ∃ er, er = shE [u, v, x] := ⟨_, rfl⟩
    rw [← hs] at C1 hd hm
    rw [← hc] at C2 hd
    rw [← ht, ← her] at C3
    rw [← ht, ← her] at hm
    rw [← her] at hn
    have HM := Lib.hid hm; have HN := Lib.hid hn
    have hsl : s.length ≤ 16 := by omega
    have hcl : c.length ≤ 16 := by omega
    have y1 : IntKind.i64.wrap ((s.length : Int) + (c.length : Int)) = (s.length : Int) + (c.length : Int) := IntWalk.i64_in _ (by omega)
    have y2 : IntKind.i64.wrap ((u.length : Int) + (v.length : Int)) = (s.length : Int) + (c.length : Int) := by
      rw [show (u.length : Int) + (v.length : Int) = (s.length : Int) + (c.length : Int) by omega]; exact y1
    have HY := Lib.hid (And.intro y1 y2)
    clear h1 h2 h3 h4 hok hok2 s2 s3 hu hv hx hul hvl hd hW2 hm hn hs hc ht her y1 y2
    go_enter Tryd.func8, Tryd.ntmps8
    have e1 : Hid (Ext W (W.alloc (.cells #[.string ⟨u.toArray⟩, .string ⟨v.toArray⟩] 9))) := Lib.hid (al1 W _)
    go_wp2_with fail
    refine (C1.out _ _ (A2.out W)).mono ?_
    rintro e w1 ⟨rfl, hx⟩
    have HX := Lib.hid (e1.out.trans hx); clear hx
    go_wp2_with fail
    refine (C2.out _).mono ?_
    rintro e w2 ⟨rfl, hx⟩
    replace HX := Lib.hid (HX.out.trans hx); clear hx
    obtain ⟨y1, y2⟩ := HY.out
    go_upto_region 5 with fail
    go_upto_region 7 with fail
    clear y1 y2
    have e3 : Hid (Ext w2 (w2.alloc (.cells #[.string ⟨u.toArray⟩, .string ⟨v.toArray⟩, .string ⟨x.toArray⟩] 9))) := Lib.hid (al1 w2 _)
    go_wp2_with fail
    refine (C3.out _ _ (A3.out w2)).mono ?_
    rintro e w3 ⟨rfl, hx⟩
    replace HX := Lib.hid (HX.out.trans (e3.out.trans hx)); clear hx
    cases hwx : okWd x
    · have h2 := HN.out hwx
      subst h2
      rw [hwx] at C4
      clear hwx
      go_wp2_with fail
      refine (C4.out _).mono ?_
      rintro e w4 ⟨rfl, hx⟩
      replace HX := Lib.hid (HX.out.trans hx); clear hx
      go_wp2_with fail
      refine (awake_any _).mono ?_
      rintro e w5 ⟨rfl, hx⟩
      replace HX := Lib.hid (HX.out.trans hx); clear hx
      go_wp2
      go_ret
      exact ⟨rfl, HX.out⟩
    · obtain ⟨h2, hle, h32⟩ := HM.out hwx
      subst h2
      have hle2 : ¬ (t.length : Int) < (s.length : Int) := by omega
      have hle3 : (s.length : Int) ≤ (t.length : Int) := by omega
      clear hwx
      go_wp2_with fail
      refine (awake_any _).mono ?_
      rintro e w5 ⟨rfl, hx⟩
      replace HX := Lib.hid (HX.out.trans hx); clear hx
      go_wp2
      go_ret
      exact ⟨rfl, HX.out⟩
end Go.Proofs.YtlachbodibajlaaDoor
