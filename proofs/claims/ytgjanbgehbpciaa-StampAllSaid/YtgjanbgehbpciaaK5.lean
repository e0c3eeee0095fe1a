/- The law StampStabilizer, for all arguments. -/
import Derived.Test.YtgjanbgehbpciaaK4
namespace Go.Proofs.Ytgjanbgehbpciaa
open Go.RowKit

theorem vst_N {w h : Nat} {l : List Int} (hv : vst w h l = true) : okSize w h = true ∧ l.length = w * h := by
  unfold vst at hv
  simp only [Bool.and_eq_true, decide_eq_true_eq] at hv
  refine ⟨hv.1.1, ?_⟩
  have e : ((w * h : Nat) : Int) = (w : Int) * h := by simp
  omega
theorem grpB_few {w h : Nat} {G : List Mv} (hs : okSize w h = true) (hg : grpB w h (G.take 521) = true) : G.take 521 = G := by
  have hs' := okSize_iff.1 hs
  have hN := pos2_bd (w := w) (h := h) (by omega) (by omega)
  by_cases hl : G.length ≤ 521
  · exact List.take_of_length_le hl
  · rw [grp_many (l := G.take 521) hs (by rw [List.length_take]; omega)] at hg
    cases hg
section
variable {w h : Nat} {L : List Int} {Gl : List Mv}
theorem keeps_w (hv : vst w h L = true) (hgr : grpB w h Gl = true) (hGn : Gl.length ≤ 521) :
    ∀ X A' n' c' Ag ng cg, Il X (.slice A' n' c') L → Ml X (.slice Ag ng cg) Gl → Calls Try.prog 36 #[.slice Ag ng cg, .agg #[.int .i64 w, .int .i64 h, .slice A' n' c']] X fun e Y => ∃ A' c', e = .returned (.tuple #[.slice A' (Gl.filter (fun m => kpm w h m L)).length c', .int .i64 0]) ∧ Ext X Y := fun X A' n' c' Ag ng cg hI hM => by
  have hng := hM.len
  refine (keepsS_t w h Ag A' ng cg n' c' L Gl X hI hv hM (by omega) hgr).mono ?_
  rintro e Y ⟨v, rfl, hm, hx⟩
  obtain ⟨A2, c2, rfl, -⟩ := hm
  exact ⟨A2, c2, rfl, hx⟩
theorem orbit_w (hv : vst w h L = true) (hgr : grpB w h Gl = true) (hGn : Gl.length ≤ 521) :
    ∀ X A' n' c' Ag ng cg, Il X (.slice A' n' c') L → Ml X (.slice Ag ng cg) Gl → Calls Try.prog 37 #[.slice Ag ng cg, .agg #[.int .i64 w, .int .i64 h, .slice A' n' c']] X fun e Y => ∃ gf cap ne es, e = .returned (.tuple #[.slice (some ⟨gf, 0, none⟩) ne cap, .int .i64 0]) ∧ OS Y w h (w * h) L Gl gf cap ne es ∧ Ext X Y := fun X A' n' c' Ag ng cg hI hM => by
  have hng := hM.len
  have hn' : n' = w * h := by rw [← (vst_N hv).2]; exact hI.len
  subst hn'
  refine (orbitS_t w h Ag A' ng cg _ c' L Gl X hI hv hM (by omega) hgr).mono ?_
  rintro e Y ⟨gf, cap, es, rfl, a1, a2, a3, a4, a5, a6, a7, hx⟩
  exact ⟨gf, cap, es.length, es, rfl, ⟨rfl, a1, a2, a3, a4, a5, fun x hx => ⟨(a6 x hx).1, (a6 x hx).2.1⟩, a7⟩, hx⟩
theorem least_w (hgr : grpB w h Gl = true) (hGn : Gl.length ≤ 521) :
    ∀ X l' A' n' c' Ag ng cg, vst w h l' = true → Il X (.slice A' n' c') l' → Ml X (.slice Ag ng cg) Gl → Calls Try.prog 38 #[.slice Ag ng cg, .agg #[.int .i64 w, .int .i64 h, .slice A' n' c']] X fun e Y => ∃ b K, e = .returned (.tuple #[.agg #[.int .i64 w, .int .i64 h, .slice (some ⟨b, 0, none⟩) (w * h) (w * h)], .int .i64 0]) ∧ LS Y w h (w * h) l' Gl b K ∧ Ext X Y := fun X l' A' n' c' Ag ng cg hv hI hM => by
  have hng := hM.len
  have hn' : n' = w * h := by rw [← (vst_N hv).2]; exact hI.len
  subst hn'
  refine (leastS_t w h Ag A' ng cg _ c' l' Gl X hI hv hM (by omega) hgr).mono ?_
  rintro e Y ⟨b, K, rfl, a1, a2, a3, a4, hx⟩
  exact ⟨b, K, rfl, ⟨a1, a2, a3, a4⟩, hx⟩
end
/-- the law -/
theorem stab_any (A0 : Option Addr) (n0 c0 : Nat) (G0 : List Mv) (w h : Int) (A : Option Addr) (n c : Nat) (l : List Int) (W : World) (hg : Ml W (.slice A0 n0 c0) G0) (hl : Ins W A n c l) :
    Calls Try.prog 8 #[.slice A0 n0 c0, .agg #[.int .i64 w, .int .i64 h, .slice A n c]] W fun e W' => e = .returned (.bool true) ∧ Ext W W' := by
  have hGn : (G0.take 521).length ≤ 521 := by rw [List.length_take]; omega
  cases hv : vst w h (l.take 70)
  · exact stab_no A0 n0 c0 G0 _ w h A n c l _ W hg hl rfl rfl (fun X A' n' c' Ag ng cg hI hM => keepsS_v w h Ag A' ng cg n' c' _ X hI hv)
  · have hs : okSize w h = true := by unfold vst at hv; simp only [Bool.and_eq_true] at hv; exact hv.1.1
    have hs' := okSize_iff.1 hs
    obtain ⟨w, rfl⟩ : ∃ n : Nat, w = n := ⟨w.toNat, by omega⟩
    obtain ⟨h, rfl⟩ : ∃ n : Nat, h = n := ⟨h.toNat, by omega⟩
    cases hgr : grpB w h (G0.take 521)
    · exact stab_no A0 n0 c0 G0 _ w h A n c l _ W hg hl rfl rfl (fun X A' n' c' Ag ng cg hI hM => keepsS_g w h Ag A' ng cg n' c' _ _ X hI hv hM (by have := hM.len; omega) hgr)
    · exact stab_ok A0 n0 c0 G0 _ w h A n c l _ W hg hl rfl rfl (w * h) rfl hs hv (vst_N hv).2 (grpB_iff.1 hgr) (by rw [grpB_few hs hgr]; exact hg.len) _ rfl (keeps_w hv hgr hGn) (orbit_w hv hgr hGn) (least_w hgr hGn)
end Go.Proofs.Ytgjanbgehbpciaa
