/- Walks: isFirst; the goals of moves in a row. -/
import Derived.Test.YtgjanbgehbpciaaT1
import Derived.Test.YtgjanbgehbpciaaF3
import Derived.Test.YtgjanbgehbpciaaD4
namespace Go.Proofs.Ytgjanbgehbpciaa
open Go.RowKit

/-- the goals of a move as indices -/
def gsN (w h : Nat) (m : Mv) (N : Nat) : List Nat := (List.range N).map (gN w h m)
section
variable {w h N : Nat} {m : Mv}
theorem gsN_len : (gsN w h m N).length = N := by simp [gsN]
theorem gsN_at {j : Nat} (hj : j < N) : (gsN w h m N).getD j 0 = gN w h m j := by
  unfold gsN; rw [List.getD_eq_getElem?_getD, List.getElem?_map, List.getElem?_range hj]; rfl
theorem gsN_in (hs : okSize w h = true) (hN : N = w * h) {j : Nat} (hj : j < N) : (gsN w h m N).getD j 0 < N := by
  have hs' := okSize_iff.1 hs
  rw [gsN_at hj, hN]; exact (gN_in m j (by omega) (by omega)).1
theorem gl_gsN (hs : okSize w h = true) {j : Nat} (hj : j < N) : (gl w h m N).getD j 0 = ((gsN w h m N).getD j 0 : Nat) := by
  have hs' := okSize_iff.1 hs
  rw [gsN_at hj]
  unfold gl
  rw [List.getD_eq_getElem?_getD, List.getElem?_map, List.getElem?_range hj]
  exact (gN_in m j (by omega) (by omega)).2
theorem atG_apl (hs : okSize w h = true) (hN : N = w * h) (hm : has w h m = true) {cs : List Int} (hl : cs.length = N) : atG cs (gsN w h m N) = apl w h (inv w h m) cs N := by
  have hs' := okSize_iff.1 hs
  refine apl_ext (w := w) (h := h) hN (by unfold atG; rw [List.length_map, gsN_len]) (by rw [apl_len, hN]) (fun i hi => ?_)
  rw [atG_at (by rw [gsN_len]; exact hi), gsN_at hi]
  have hin := (gN_in (w := w) (h := h) m i (by omega) (by omega)).1
  have := apl_at hs (inv_has hs hm) cs N (by omega) (gN w h m i) (by omega)
  rw [gN_back hs hm (by omega)] at this
  exact this.symm
end

/-- a row of the goals of moves, below block B -/
def GR (W : World) (B gr w h N : Nat) (g : List Mv) : Prop :=
  gr < B ∧ ∀ j m, g[j]? = some m → ∃ b o c, W.cell? ⟨gr, j, none⟩ = some (.slice (some ⟨b, o, none⟩) N c) ∧ b < B ∧ ∀ t, t < N → W.cell? ⟨b, o + t, none⟩ = some (.int .i64 ((gsN w h m N).getD t 0 : Nat))
theorem GR.keep {X Y : World} {B gr w h N : Nat} {g : List Mv} (hr : GR X B gr w h N g) (hk : ∀ k, k < B → Y.heap[k]? = X.heap[k]?) : GR Y B gr w h N g := by
  refine ⟨hr.1, fun j m hm => ?_⟩
  obtain ⟨b, o, c, h1, h2, h3⟩ := hr.2 j m hm
  exact ⟨b, o, c, (World.cell?_of_block (hk gr hr.1)).trans h1, h2, fun t ht => (World.cell?_of_block (hk b h2)).trans (h3 t ht)⟩

set_option maxHeartbeats 2000000 in
set_option maxRecDepth 100000 in
theorem isFirst_c (bc cc gr gcap ng w h N B : Nat) (cs : List Int) (g : List Mv) (W : World) (hs : okSize w h = true) (hNwh : N = w * h) (hng : ng = g.length) (hn1 : ng ≤ 1000) (hcs : Ar3 W bc cs) (hl : cs.length = N) (hB : B ≤ W.heap.size) (hgr : GR W B gr w h N g) :
    Calls Try.prog 74 #[.slice (some ⟨bc, 0, none⟩) N cc, .slice (some ⟨gr, 0, none⟩) ng gcap] W fun e W' => e = .returned (.bool (g.all fun m => !ltL (atG cs (gsN w h m N)) cs)) ∧ Ext W W' := by
  have hN : N ≤ 64 := by
    have hs' := okSize_iff.1 hs
    rw [hNwh]; exact Nat.mul_le_mul (show w ≤ 8 by omega) (show h ≤ 8 by omega)
  have hbf := fun m b o c X (hX : Ext W X) (hb : b < B) (hc : ∀ t, t < N → W.cell? ⟨b, o + t, none⟩ = some (.int .i64 ((gsN w h m N).getD t 0 : Nat))) => isBefore_c bc 0 cc b o c N cs (gsN w h m N) X (by omega) hl gsN_len (fun j hj => gsN_in hs hNwh hj)
    (fun j hj => by rw [Nat.zero_add]; exact (hcs.ext hX).cell (by omega)) (fun j hj => keepAt hX (Nat.lt_of_lt_of_le hb hB) (hc j hj))
  obtain ⟨r, hr⟩ : ∃ r, r = g.all fun m => !ltL (atG cs (gsN w h m N)) cs := ⟨_, rfl⟩
  rw [← hr]
  have HR := Lib.hid hr; have HBF := Lib.hid hbf; have HGR := Lib.hid hgr; have HLEN := Lib.hid hng
  clear hr hbf hgr hs hNwh hcs hl hng
  go_enter Try.func74, Try.ntmps74
  go_wp2
  go_loopw [9] (fun i wr => ∃ k : Nat, i = .int .i64 k ∧ k ≤ ng ∧ Ext W wr ∧ Hid (∀ m ∈ g.take k, ltL (atG cs (gsN w h m N)) cs = false)) (fun i _ => ng - (intOf i).toNat)
  case atStart => exact ⟨0, rfl, Nat.zero_le _, Ext.refl _, Lib.hid (fun m hm => by simp at hm)⟩
  case round =>
    obtain ⟨k, rfl, hk, hx, hz⟩ := hrel
    have HX := Lib.hid hx; clear hx
    by_cases hlt : k < ng
    · obtain ⟨m, hm⟩ : ∃ m, g[k]? = some m := ⟨g[k]'(by rw [← HLEN.out]; exact hlt), List.getElem?_eq_getElem _⟩
      obtain ⟨b, o, c, c1, hb, c2⟩ := HGR.out.2 k m hm
      have c0 := keepAt HX.out (Nat.lt_of_lt_of_le HGR.out.1 hB) c1
      have hbe := HBF.out m b o c wr HX.out hb c2
      have HM := Lib.hid hm
      clear c1 c2 hm
      cases hlb : ltL (atG cs (gsN w h m N)) cs with
      | true =>
        rw [hlb] at hbe
        have hrf : r = false := by
          rw [HR.out, List.all_eq_false]
          exact ⟨m, List.mem_of_getElem? HM.out, by rw [hlb]; simp⟩
        have HF := Lib.hid hrf; have HBE := Lib.hid hbe; clear hrf hbe hlb
        go_wp2_with fail
        refine HBE.out.mono ?_
        rintro e V ⟨rfl, hy⟩
        have HY := Lib.hid (HX.out.trans hy); clear hy c0
        go_wp2
        go_ret
        exact ⟨by rw [HF.out]; rfl, HY.out⟩
      | false =>
        rw [hlb] at hbe
        have HBE := Lib.hid hbe; have HLB := Lib.hid hlb; clear hbe hlb
        go_wp2_with fail
        refine HBE.out.mono ?_
        rintro e V ⟨rfl, hy⟩
        have HY := Lib.hid (HX.out.trans hy); clear hy c0
        go_wp2
        go_roundw
        case rel => exact ⟨k + 1, by go_num, by omega, HY.out, Lib.hid (fun x hx => by
          rw [List.take_add_one, HM.out] at hx
          rcases List.mem_append.1 hx with h1 | h1
          · exact hz.out x h1
          · rw [Option.toList_some, List.mem_singleton] at h1; subst h1; exact HLB.out)⟩
        case measure => simp [intOf]; omega
    · obtain rfl : k = ng := by omega
      have hrt : r = true := by
        rw [HR.out, List.all_eq_true]
        intro m hm
        have := hz.out m (by rw [HLEN.out, List.take_of_length_le (Nat.le_refl _)]; exact hm)
        rw [this]; rfl
      have HT := Lib.hid hrt; clear hrt
      go_wp2
      go_ret
      exact ⟨by rw [HT.out]; rfl, HX.out⟩
end Go.Proofs.Ytgjanbgehbpciaa
