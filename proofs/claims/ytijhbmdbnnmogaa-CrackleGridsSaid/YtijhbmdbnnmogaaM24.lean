/- Walks: the reference's Grid. · FromInt's words lie in a block of their own. -/
import Derived.Test.YtijhbmdbnnmogaaM23
import Derived.Test.YtijhbmdbnnmogaaM20
namespace Go.Proofs.Ytijhbmdbnnmogaa.G
open Go.RowKit

set_option maxHeartbeats 4000000 in
set_option maxRecDepth 100000 in
theorem gridR_no (vw vh : Int) (W : World) (h : ¬ ((1 ≤ vw ∧ vw ≤ 5) ∧ 1 ≤ vh ∧ vh ≤ 5)) :
    Calls Try.prog 28 #[.int .i64 vw, .int .i64 vh] W fun e W' => e = .returned (.tuple #[.agg #[.slice none 0 0], .int .i64 2]) ∧ Ext W W' := by
  go_enter Try.func28, Try.ntmps28
  go_upto_region 1 with fail
  have bb := al1 W (.cells #[.slice none 0 0] 24)
  have h0 := heap_alloc_new W (.cells #[.slice none 0 0] 24)
  generalize W.alloc (.cells #[.slice none 0 0] 24) = W1 at *
  have hfin : Ext W (W1.setCell ⟨W.heap.size, 0, none⟩ (.slice none 0 0)) := Ext.sc bb (Nat.le_refl _)
  obtain ⟨c0, f0, l0⟩ := uno h0
  have g0 : (W1.setCell ⟨W.heap.size, 0, none⟩ (.slice none 0 0)).cell? ⟨W.heap.size, 0, none⟩ = some (.slice none 0 0) := World.cell?_setCell_same _ _ _ c0
  have HF := Lib.hid hfin
  clear bb h0 hfin l0
  have hcases : vw < 1 ∨ (¬ vw < 1 ∧ 5 < vw) ∨ ((¬ vw < 1 ∧ ¬ 5 < vw) ∧ vh < 1) ∨ ((¬ vw < 1 ∧ ¬ 5 < vw) ∧ ¬ vh < 1 ∧ 5 < vh) := by omega
  clear h
  rcases hcases with h1 | ⟨h1, h2⟩ | ⟨⟨h1, h2⟩, h3⟩ | ⟨⟨h1, h2⟩, h3, h4⟩
  all_goals
    go_wp2
    exact bodyPost_ret (v := .tuple #[.agg #[.slice none 0 0], .int .i64 2]) (by simp [results, Try.results28, go_sem, g0]) rfl ⟨rfl, HF.out⟩

set_option maxHeartbeats 8000000 in
set_option maxRecDepth 100000 in
theorem gridR_ok (w h : Nat) (W : World) (w1 : 1 ≤ w) (w5 : w ≤ 5) (g1 : 1 ≤ h) (g5 : h ≤ 5) :
    Calls Try.prog 28 #[.int .i64 (w : Nat), .int .i64 (h : Nat)] W fun e W' => ∃ g, e = .returned (.tuple #[.agg #[.slice (some ⟨g, 0, none⟩) (ng w h) (ng w h)], .int .i64 0]) ∧ W.heap.size ≤ g ∧ BI W' g (ng w h) (gs w h (h * w)) ∧ Ext W W' := by
  obtain ⟨N, hN⟩ : ∃ N, N = ng w h := ⟨_, rfl⟩
  rw [← hN]
  have hN80 : N ≤ 80 := by rw [hN]; exact ng_le w (by omega) h (by omega)
  obtain ⟨P, hP⟩ : ∃ P : Nat, P = (w - 1) * h := ⟨_, rfl⟩
  obtain ⟨Q, hQ⟩ : ∃ Q : Nat, Q = w * (h - 1) := ⟨_, rfl⟩
  have hPQ : N = 2 * (P + Q) := by rw [hN, hP, hQ]; rfl
  have hmP : ((w : Int) - 1) * (h : Int) = (P : Int) := by rw [hP, Int.natCast_mul, Int.natCast_sub w1]; rfl
  have hmQ : (w : Int) * ((h : Int) - 1) = (Q : Int) := by rw [hQ, Int.natCast_mul, Int.natCast_sub g1]; rfl
  have hm1 : ∀ X, (Instr.makeSlice 22 (.int .i64 (2 * ((P : Int) + (Q : Int)))) (.int .i64 (2 * ((P : Int) + (Q : Int))))).run Try.prog X = .ok (.slice (some ⟨X.heap.size, 0, none⟩) N N) (X.alloc (.cells (Array.ofFn fun _ : Fin N => .int .i64 0) 3)) := fun X => by
    have e : (2 : Int) * ((P : Int) + (Q : Int)) = ((N : Nat) : Int) := by omega
    rw [e]; exact make_one 22 3 _ 8 Try.underlying22 info3 rfl (by omega) N (by omega) X
  have hP2 : P ≤ 40 ∧ Q ≤ 40 := by omega
  have HN := Lib.hid (And.intro hN hPQ)
  clear hP hQ hN hPQ
  obtain ⟨i0, hi, hz0, hz1, hz2⟩ := info_parts info3
  have HI := Lib.hid (And.intro hi (And.intro hz0 (And.intro hz1 hz2)))
  clear hi hz0 hz1 hz2
  go_enter Try.func28, Try.ntmps28
  go_upto_region 1 with fail
  have bb := al1 W (.cells #[.slice none 0 0] 24)
  have h0 := heap_alloc_new W (.cells #[.slice none 0 0] 24)
  generalize W.alloc (.cells #[.slice none 0 0] 24) = W1 at *
  have HB : Hid (Ext W W1) := Lib.hid bb
  have HH := Lib.hid h0
  clear bb
  go_upto_region 4 with fail
  clear hmP hmQ hP2
  have O1 : Ext W1 ((W1.alloc (.cells (Array.ofFn fun _ : Fin N => Value.int .i64 0) 3)).alloc (.cells #[.slice (some ⟨W1.heap.size, 0, none⟩) N N] 24)) := al2 W1 _ _
  have y1 : BI ((W1.alloc (.cells (Array.ofFn fun _ : Fin N => Value.int .i64 0) 3)).alloc (.cells #[.slice (some ⟨W1.heap.size, 0, none⟩) N N] 24)) W1.heap.size N (fun _ => 0) := Bk.alloc (t := 3) (n := N) (f := fun _ => Value.int .i64 0) (heap_alloc_new W1 _) _
  have y2 := heap_alloc_new (W1.alloc (.cells (Array.ofFn fun _ : Fin N => Value.int .i64 0) 3)) (.cells #[.slice (some ⟨W1.heap.size, 0, none⟩) N N] 24)
  simp only [World.size_alloc] at y2
  obtain ⟨g, hg⟩ : ∃ g, g = W1.heap.size := ⟨_, rfl⟩
  have hgW : W.heap.size < g := by rw [hg]; exact (uno h0).2.2
  rw [← hg] at y1 y2 O1 ⊢
  obtain ⟨z, hz⟩ : ∃ z, z = g + 1 := ⟨_, rfl⟩
  rw [← hz] at y2 ⊢
  have hgz : g ≠ z := by omega
  generalize (W1.alloc (.cells (Array.ofFn fun _ : Fin N => Value.int .i64 0) 3)).alloc (.cells #[.slice (some ⟨g, 0, none⟩) N N] 24) = W3 at *
  have HY := Lib.hid (And.intro y1 (And.intro y2 O1))
  have HGW := Lib.hid (And.intro hg hz)
  clear y1 y2 O1 hg hz h0
  go_wp2_with fail
  go_loopw [40] (fun i wr => ∃ y : Nat, i = .int .i64 y ∧ y ≤ h ∧ Hid (BI wr g N (gs w h (y * w)) ∧ wr.heap[z]? = some (.cells #[.slice (some ⟨g, 0, none⟩) N N] 24 (0, 0)) ∧ Ext W1 wr)) (fun i _ => h - (intOf i).toNat)
  case atStart => exact ⟨0, rfl, Nat.zero_le _, Lib.hid ⟨by rw [Nat.zero_mul]; exact HY.out.1, HY.out.2.1, HY.out.2.2⟩⟩
  case round =>
    clear HY
    obtain ⟨y, rfl, hy, hin⟩ := hrel
    obtain ⟨wo, rfl⟩ : ∃ w, w = wr := ⟨_, rfl⟩
    by_cases hlt : y < h
    · have HIN := hin
      clear hin
      go_wp2_with fail
      go_loopw [44] (fun i wr => ∃ x : Nat, i = .int .i64 x ∧ x ≤ w ∧ Hid (BI wr g N (gs w h (y * w + x)) ∧ wr.heap[z]? = some (.cells #[.slice (some ⟨g, 0, none⟩) N N] 24 (0, 0)) ∧ Ext W1 wr)) (fun i _ => w - (intOf i).toNat)
      case atStart => exact ⟨0, rfl, Nat.zero_le _, Lib.hid ⟨by rw [Nat.add_zero]; exact HIN.out.1, HIN.out.2.1, HIN.out.2.2⟩⟩
      case round =>
        clear HIN
        obtain ⟨x, rfl, hx, hin⟩ := hrel
        obtain ⟨wp, rfl⟩ : ∃ w, w = wr := ⟨_, rfl⟩
        by_cases hlt2 : x < w
        · obtain ⟨p1, hp1⟩ : ∃ p, p = (y : Int) * ((w : Int) - 1) := ⟨_, rfl⟩
          obtain ⟨p2, hp2⟩ : ∃ p, p = ((w : Int) - 1) * (h : Int) := ⟨_, rfl⟩
          obtain ⟨p3, hp3⟩ : ∃ p, p = ((y : Int) - 1) * (w : Int) := ⟨_, rfl⟩
          obtain ⟨p4, hp4⟩ : ∃ p, p = (y : Int) * (w : Int) := ⟨_, rfl⟩
          have b1 := mul_small (y := (y : Int)) (v := (w : Int) - 1) (by omega) (by omega) (by omega) (by omega)
          have b2 := mul_small (y := (w : Int) - 1) (v := (h : Int)) (by omega) (by omega) (by omega) (by omega)
          have b3 := mul_small (y := (y : Int) - 1) (v := (w : Int)) (by omega) (by omega) (by omega) (by omega)
          have b4 := mul_small (y := (y : Int)) (v := (w : Int)) (by omega) (by omega) (by omega) (by omega)
          rw [← hp1] at b1; rw [← hp2] at b2; rw [← hp3] at b3; rw [← hp4] at b4
          have v0 : gdv (w : Nat) (h : Nat) (x : Nat) (y : Nat) 0 = 2 * (p1 + x) := by rw [hp1]; rfl
          have v1 : gdv (w : Nat) (h : Nat) (x : Nat) (y : Nat) 1 = 2 * (p2 + p3 + x) + 1 := by rw [hp2, hp3]; rfl
          have v2 : gdv (w : Nat) (h : Nat) (x : Nat) (y : Nat) 2 = 2 * (p1 + x - 1) + 1 := by show 2 * ((y : Int) * ((w : Int) - 1) + ((x : Int) - 1)) + 1 = _; rw [← hp1]; omega
          have v3 : gdv (w : Nat) (h : Nat) (x : Nat) (y : Nat) 3 = 2 * (p2 + p4 + x) := by rw [hp2, hp4]; rfl
          have HV := Lib.hid (And.intro v0 (And.intro v1 (And.intro v2 v3)))
          replace hp1 := hp1.symm; replace hp2 := hp2.symm; replace hp3 := hp3.symm; replace hp4 := hp4.symm
          clear v0 v1 v2 v3
          have hl0 := ard_len (w : Nat) (h : Nat) (x : Nat) (y : Nat) 0
          have H0 : Hid (wp.ownsRow wp.heap.size 3 1 (.slice none 0 0) 0 [] ∧ Ext wp wp) := Lib.hid ⟨World.ownsRow_nil _ _ _ _, Ext.refl _⟩
          go_upto_if 50 with fail
          go_cut [9] (fun s wx => ∃ Av cv, s = .slice Av (ard (w : Nat) (h : Nat) (x : Nat) (y : Nat) 1).length cv ∧ Hid (wx.ownsRow wp.heap.size 3 1 (.slice Av (ard (w : Nat) (h : Nat) (x : Nat) (y : Nat) 1).length cv) (ard (w : Nat) (h : Nat) (x : Nat) (y : Nat) 1).length (vi (ard (w : Nat) (h : Nat) (x : Nat) (y : Nat) 1)) ∧ Ext wp wx))
          case first =>
            have hl := ard_len (w : Nat) (h : Nat) (x : Nat) (y : Nat) 0
            have hown := H0.out.1
            by_cases hc : (x : Int) < (w : Int) - 1
            · have hs : ard (w : Nat) (h : Nat) (x : Nat) (y : Nat) 1 = ard (w : Nat) (h : Nat) (x : Nat) (y : Nat) 0 ++ [2 * (p1 + (x : Int))] := by rw [ard_succ, show gok (w : Nat) (h : Nat) (x : Nat) (y : Nat) 0 = true from decide_eq_true hc, if_pos rfl, HV.out.1]
              have HS := Lib.hid hs; have HC := Lib.hid hc
              obtain ⟨L, hL⟩ : ∃ L, L = (ard (w : Nat) (h : Nat) (x : Nat) (y : Nat) 0).length := ⟨_, rfl⟩
              have HL := Lib.hid hL
              obtain rfl : L = 0 := hL
              clear hs
              go_wp2_with (at_builtin; refine wpList_append_own _ rfl _ _ 22 rfl wp.heap.size 3 i0 (.int .i64 0) 1 8 Try.underlying22 HI.out.1 HI.out.2.1 HI.out.2.2.1 HI.out.2.2.2 rfl (by decide) _ 0 _ rfl (World.ownsRow.ext hown (Ext.alc (Ext.refl wp) (.cells #[.int .i64 (2 * (p1 + (x : Int)))] 3))) ⟨wp.heap.size, 0, none⟩ 1 1 [.int .i64 (2 * (p1 + (x : Int)))] rfl rfl (cell_one_new _ _ _) ?c2 ?c3 ?c4 ?c5 ?_)
              case c2 => first | rfl | (intro uu hu; simp at hu; subst hu; rfl)
              case c3 => unfold maxLen; omega
              case c4 => omega
              case c5 => have := H0.out.2.size; first | omega | (simp; done) | (simp; omega)
              intro v' w3 hown' hgrow _hnil
              clear _hnil
              have hex : Ext wp w3 := ext_grow (H0.out.2.alc _) hgrow (fun b' hb' => (World.ownsRow.lt hown b' hb').1) (Nat.le_refl _)
              have HNX : ∃ Av cv, v' = .slice Av (ard (w : Nat) (h : Nat) (x : Nat) (y : Nat) 1).length cv ∧ Hid (w3.ownsRow wp.heap.size 3 1 (.slice Av (ard (w : Nat) (h : Nat) (x : Nat) (y : Nat) 1).length cv) (ard (w : Nat) (h : Nat) (x : Nat) (y : Nat) 1).length (vi (ard (w : Nat) (h : Nat) (x : Nat) (y : Nat) 1)) ∧ Ext wp w3) := by
                have e1 : (ard (w : Nat) (h : Nat) (x : Nat) (y : Nat) 1).length = 0 + 1 := by rw [HS.out, List.length_append, ]; rfl
                have e2 : vi (ard (w : Nat) (h : Nat) (x : Nat) (y : Nat) 1) = [] ++ [.int .i64 (2 * (p1 + (x : Int)))] := by rw [HS.out, vi_app]; rfl
                rw [e1, e2]
                obtain ⟨Av, cv, rfl⟩ := shape_own hown'
                exact ⟨Av, cv, rfl, Lib.hid ⟨hown', hex⟩⟩
              clear hown' hex hgrow hown
              go_wp2_with fail
              go_meet
              exact HNX
            · have hs : ard (w : Nat) (h : Nat) (x : Nat) (y : Nat) 1 = ard (w : Nat) (h : Nat) (x : Nat) (y : Nat) 0 := by rw [ard_succ, show gok (w : Nat) (h : Nat) (x : Nat) (y : Nat) 0 = false from decide_eq_false hc]; simp
              go_wp2_with fail
              go_meet
              rw [hs]
              exact ⟨_, _, rfl, H0⟩
          case rest =>
          obtain ⟨Av1, cv1, rfl, hcut2⟩ := hcut
          obtain ⟨x1, hx1⟩ : ∃ w, w = wc := ⟨_, rfl⟩
          rw [← hx1] at hcut2 ⊢
          clear hx1
          have H1 := hcut2
          clear hcut2
          go_upto_if 62 with fail
          go_cut [9] (fun s wx => ∃ Av cv, s = .slice Av (ard (w : Nat) (h : Nat) (x : Nat) (y : Nat) 2).length cv ∧ Hid (wx.ownsRow wp.heap.size 3 1 (.slice Av (ard (w : Nat) (h : Nat) (x : Nat) (y : Nat) 2).length cv) (ard (w : Nat) (h : Nat) (x : Nat) (y : Nat) 2).length (vi (ard (w : Nat) (h : Nat) (x : Nat) (y : Nat) 2)) ∧ Ext wp wx))
          case first =>
            have hl := ard_len (w : Nat) (h : Nat) (x : Nat) (y : Nat) 1
            have hown := H1.out.1
            by_cases hc : 0 < (y : Int)
            · have hs : ard (w : Nat) (h : Nat) (x : Nat) (y : Nat) 2 = ard (w : Nat) (h : Nat) (x : Nat) (y : Nat) 1 ++ [2 * (p2 + p3 + (x : Int)) + 1] := by rw [ard_succ, show gok (w : Nat) (h : Nat) (x : Nat) (y : Nat) 1 = true from decide_eq_true hc, if_pos rfl, HV.out.2.1]
              have HS := Lib.hid hs; have HC := Lib.hid hc
              obtain ⟨L, hL⟩ : ∃ L, L = (ard (w : Nat) (h : Nat) (x : Nat) (y : Nat) 1).length := ⟨_, rfl⟩
              have HL := Lib.hid hL
              rw [← hL] at hown hl ⊢
              clear hs hL
              go_wp2_with (at_builtin; refine wpList_append_own _ rfl _ _ 22 rfl wp.heap.size 3 i0 (.int .i64 0) 1 8 Try.underlying22 HI.out.1 HI.out.2.1 HI.out.2.2.1 HI.out.2.2.2 rfl (by decide) _ L _ rfl (World.ownsRow.ext hown (Ext.alc (Ext.refl x1) (.cells #[.int .i64 (2 * (p2 + p3 + (x : Int)) + 1)] 3))) ⟨x1.heap.size, 0, none⟩ 1 1 [.int .i64 (2 * (p2 + p3 + (x : Int)) + 1)] rfl rfl (cell_one_new _ _ _) ?c2 ?c3 ?c4 ?c5 ?_)
              case c2 => first | rfl | (intro uu hu; simp at hu; subst hu; rfl)
              case c3 => unfold maxLen; omega
              case c4 => omega
              case c5 => have := H1.out.2.size; first | omega | (simp; done) | (simp; omega)
              intro v' w3 hown' hgrow _hnil
              clear _hnil
              have hex : Ext wp w3 := ext_grow (H1.out.2.alc _) hgrow (fun b' hb' => (World.ownsRow.lt hown b' hb').1) (Nat.le_refl _)
              have HNX : ∃ Av cv, v' = .slice Av (ard (w : Nat) (h : Nat) (x : Nat) (y : Nat) 2).length cv ∧ Hid (w3.ownsRow wp.heap.size 3 1 (.slice Av (ard (w : Nat) (h : Nat) (x : Nat) (y : Nat) 2).length cv) (ard (w : Nat) (h : Nat) (x : Nat) (y : Nat) 2).length (vi (ard (w : Nat) (h : Nat) (x : Nat) (y : Nat) 2)) ∧ Ext wp w3) := by
                have e1 : (ard (w : Nat) (h : Nat) (x : Nat) (y : Nat) 2).length = L + 1 := by rw [HS.out, List.length_append, ← HL.out]; rfl
                have e2 : vi (ard (w : Nat) (h : Nat) (x : Nat) (y : Nat) 2) = vi (ard (w : Nat) (h : Nat) (x : Nat) (y : Nat) 1) ++ [.int .i64 (2 * (p2 + p3 + (x : Int)) + 1)] := by rw [HS.out, vi_app]
                rw [e1, e2]
                obtain ⟨Av, cv, rfl⟩ := shape_own hown'
                exact ⟨Av, cv, rfl, Lib.hid ⟨hown', hex⟩⟩
              clear hown' hex hgrow hown
              go_wp2_with fail
              go_meet
              exact HNX
            · have hs : ard (w : Nat) (h : Nat) (x : Nat) (y : Nat) 2 = ard (w : Nat) (h : Nat) (x : Nat) (y : Nat) 1 := by rw [ard_succ, show gok (w : Nat) (h : Nat) (x : Nat) (y : Nat) 1 = false from decide_eq_false hc]; simp
              go_wp2_with fail
              go_meet
              rw [hs]
              exact ⟨_, _, rfl, H1⟩
          case rest =>
          obtain ⟨Av2, cv2, rfl, hcut2⟩ := hcut
          obtain ⟨x2, hx2⟩ : ∃ w, w = wc := ⟨_, rfl⟩
          rw [← hx2] at hcut2 ⊢
          clear hx2
          have H2 := hcut2
          clear hcut2
          go_upto_if 80 with fail
          go_cut [9] (fun s wx => ∃ Av cv, s = .slice Av (ard (w : Nat) (h : Nat) (x : Nat) (y : Nat) 3).length cv ∧ Hid (wx.ownsRow wp.heap.size 3 1 (.slice Av (ard (w : Nat) (h : Nat) (x : Nat) (y : Nat) 3).length cv) (ard (w : Nat) (h : Nat) (x : Nat) (y : Nat) 3).length (vi (ard (w : Nat) (h : Nat) (x : Nat) (y : Nat) 3)) ∧ Ext wp wx))
          case first =>
            have hl := ard_len (w : Nat) (h : Nat) (x : Nat) (y : Nat) 2
            have hown := H2.out.1
            by_cases hc : 0 < (x : Int)
            · have hs : ard (w : Nat) (h : Nat) (x : Nat) (y : Nat) 3 = ard (w : Nat) (h : Nat) (x : Nat) (y : Nat) 2 ++ [2 * (p1 + (x : Int) - 1) + 1] := by rw [ard_succ, show gok (w : Nat) (h : Nat) (x : Nat) (y : Nat) 2 = true from decide_eq_true hc, if_pos rfl, HV.out.2.2.1]
              have HS := Lib.hid hs; have HC := Lib.hid hc
              obtain ⟨L, hL⟩ : ∃ L, L = (ard (w : Nat) (h : Nat) (x : Nat) (y : Nat) 2).length := ⟨_, rfl⟩
              have HL := Lib.hid hL
              rw [← hL] at hown hl ⊢
              clear hs hL
              go_wp2_with (at_builtin; refine wpList_append_own _ rfl _ _ 22 rfl wp.heap.size 3 i0 (.int .i64 0) 1 8 Try.underlying22 HI.out.1 HI.out.2.1 HI.out.2.2.1 HI.out.2.2.2 rfl (by decide) _ L _ rfl (World.ownsRow.ext hown (Ext.alc (Ext.refl x2) (.cells #[.int .i64 (2 * (p1 + (x : Int) - 1) + 1)] 3))) ⟨x2.heap.size, 0, none⟩ 1 1 [.int .i64 (2 * (p1 + (x : Int) - 1) + 1)] rfl rfl (cell_one_new _ _ _) ?c2 ?c3 ?c4 ?c5 ?_)
              case c2 => first | rfl | (intro uu hu; simp at hu; subst hu; rfl)
              case c3 => unfold maxLen; omega
              case c4 => omega
              case c5 => have := H2.out.2.size; first | omega | (simp; done) | (simp; omega)
              intro v' w3 hown' hgrow _hnil
              clear _hnil
              have hex : Ext wp w3 := ext_grow (H2.out.2.alc _) hgrow (fun b' hb' => (World.ownsRow.lt hown b' hb').1) (Nat.le_refl _)
              have HNX : ∃ Av cv, v' = .slice Av (ard (w : Nat) (h : Nat) (x : Nat) (y : Nat) 3).length cv ∧ Hid (w3.ownsRow wp.heap.size 3 1 (.slice Av (ard (w : Nat) (h : Nat) (x : Nat) (y : Nat) 3).length cv) (ard (w : Nat) (h : Nat) (x : Nat) (y : Nat) 3).length (vi (ard (w : Nat) (h : Nat) (x : Nat) (y : Nat) 3)) ∧ Ext wp w3) := by
                have e1 : (ard (w : Nat) (h : Nat) (x : Nat) (y : Nat) 3).length = L + 1 := by rw [HS.out, List.length_append, ← HL.out]; rfl
                have e2 : vi (ard (w : Nat) (h : Nat) (x : Nat) (y : Nat) 3) = vi (ard (w : Nat) (h : Nat) (x : Nat) (y : Nat) 2) ++ [.int .i64 (2 * (p1 + (x : Int) - 1) + 1)] := by rw [HS.out, vi_app]
                rw [e1, e2]
                obtain ⟨Av, cv, rfl⟩ := shape_own hown'
                exact ⟨Av, cv, rfl, Lib.hid ⟨hown', hex⟩⟩
              clear hown' hex hgrow hown
              go_wp2_with fail
              go_meet
              exact HNX
            · have hs : ard (w : Nat) (h : Nat) (x : Nat) (y : Nat) 3 = ard (w : Nat) (h : Nat) (x : Nat) (y : Nat) 2 := by rw [ard_succ, show gok (w : Nat) (h : Nat) (x : Nat) (y : Nat) 2 = false from decide_eq_false hc]; simp
              go_wp2_with fail
              go_meet
              rw [hs]
              exact ⟨_, _, rfl, H2⟩
          case rest =>
          obtain ⟨Av3, cv3, rfl, hcut2⟩ := hcut
          obtain ⟨x3, hx3⟩ : ∃ w, w = wc := ⟨_, rfl⟩
          rw [← hx3] at hcut2 ⊢
          clear hx3
          have H3 := hcut2
          clear hcut2
          go_upto_if 96 with fail
          go_cut [9] (fun s wx => ∃ Av cv, s = .slice Av (ard (w : Nat) (h : Nat) (x : Nat) (y : Nat) 4).length cv ∧ Hid (wx.ownsRow wp.heap.size 3 1 (.slice Av (ard (w : Nat) (h : Nat) (x : Nat) (y : Nat) 4).length cv) (ard (w : Nat) (h : Nat) (x : Nat) (y : Nat) 4).length (vi (ard (w : Nat) (h : Nat) (x : Nat) (y : Nat) 4)) ∧ Ext wp wx))
          case first =>
            have hl := ard_len (w : Nat) (h : Nat) (x : Nat) (y : Nat) 3
            have hown := H3.out.1
            by_cases hc : (y : Int) < (h : Int) - 1
            · have hs : ard (w : Nat) (h : Nat) (x : Nat) (y : Nat) 4 = ard (w : Nat) (h : Nat) (x : Nat) (y : Nat) 3 ++ [2 * (p2 + p4 + (x : Int))] := by rw [ard_succ, show gok (w : Nat) (h : Nat) (x : Nat) (y : Nat) 3 = true from decide_eq_true hc, if_pos rfl, HV.out.2.2.2]
              have HS := Lib.hid hs; have HC := Lib.hid hc
              obtain ⟨L, hL⟩ : ∃ L, L = (ard (w : Nat) (h : Nat) (x : Nat) (y : Nat) 3).length := ⟨_, rfl⟩
              have HL := Lib.hid hL
              rw [← hL] at hown hl ⊢
              clear hs hL
              go_wp2_with (at_builtin; refine wpList_append_own _ rfl _ _ 22 rfl wp.heap.size 3 i0 (.int .i64 0) 1 8 Try.underlying22 HI.out.1 HI.out.2.1 HI.out.2.2.1 HI.out.2.2.2 rfl (by decide) _ L _ rfl (World.ownsRow.ext hown (Ext.alc (Ext.refl x3) (.cells #[.int .i64 (2 * (p2 + p4 + (x : Int)))] 3))) ⟨x3.heap.size, 0, none⟩ 1 1 [.int .i64 (2 * (p2 + p4 + (x : Int)))] rfl rfl (cell_one_new _ _ _) ?c2 ?c3 ?c4 ?c5 ?_)
              case c2 => first | rfl | (intro uu hu; simp at hu; subst hu; rfl)
              case c3 => unfold maxLen; omega
              case c4 => omega
              case c5 => have := H3.out.2.size; first | omega | (simp; done) | (simp; omega)
              intro v' w3 hown' hgrow _hnil
              clear _hnil
              have hex : Ext wp w3 := ext_grow (H3.out.2.alc _) hgrow (fun b' hb' => (World.ownsRow.lt hown b' hb').1) (Nat.le_refl _)
              have HNX : ∃ Av cv, v' = .slice Av (ard (w : Nat) (h : Nat) (x : Nat) (y : Nat) 4).length cv ∧ Hid (w3.ownsRow wp.heap.size 3 1 (.slice Av (ard (w : Nat) (h : Nat) (x : Nat) (y : Nat) 4).length cv) (ard (w : Nat) (h : Nat) (x : Nat) (y : Nat) 4).length (vi (ard (w : Nat) (h : Nat) (x : Nat) (y : Nat) 4)) ∧ Ext wp w3) := by
                have e1 : (ard (w : Nat) (h : Nat) (x : Nat) (y : Nat) 4).length = L + 1 := by rw [HS.out, List.length_append, ← HL.out]; rfl
                have e2 : vi (ard (w : Nat) (h : Nat) (x : Nat) (y : Nat) 4) = vi (ard (w : Nat) (h : Nat) (x : Nat) (y : Nat) 3) ++ [.int .i64 (2 * (p2 + p4 + (x : Int)))] := by rw [HS.out, vi_app]
                rw [e1, e2]
                obtain ⟨Av, cv, rfl⟩ := shape_own hown'
                exact ⟨Av, cv, rfl, Lib.hid ⟨hown', hex⟩⟩
              clear hown' hex hgrow hown
              go_wp2_with fail
              go_meet
              exact HNX
            · have hs : ard (w : Nat) (h : Nat) (x : Nat) (y : Nat) 4 = ard (w : Nat) (h : Nat) (x : Nat) (y : Nat) 3 := by rw [ard_succ, show gok (w : Nat) (h : Nat) (x : Nat) (y : Nat) 3 = false from decide_eq_false hc]; simp
              go_wp2_with fail
              go_meet
              rw [hs]
              exact ⟨_, _, rfl, H3⟩
          case rest =>
          obtain ⟨Av4, cv4, rfl, hcut2⟩ := hcut
          obtain ⟨x4, hx4⟩ : ∃ w, w = wc := ⟨_, rfl⟩
          rw [← hx4] at hcut2 ⊢
          clear hx4
          have H4 := hcut2
          clear hcut2
          have hown := H4.out.1
          have hxx := H4.out.2
          obtain ⟨w4, hw4⟩ : ∃ w, w = x4 := ⟨_, rfl⟩
          rw [← hw4] at hown hxx ⊢
          clear hw4 H1 H2 H3 H4 H0 hp1 hp2 hp3 hp4 b1 b2 b3 b4 hl0
          have hgp : g < wp.heap.size := Bk.lt hin.out.1
          have hbi4 := hin.out.1.ext hxx
          have hz4 : w4.heap[z]? = some (.cells #[.slice (some ⟨g, 0, none⟩) N N] 24 (0, 0)) := (Below.block hxx z (Array.getElem?_eq_some_iff.1 hin.out.2.1).1).trans hin.out.2.1
          have hex4 := hin.out.2.2.trans hxx
          have hbd : ∀ i, i < (ard (w : Nat) (h : Nat) (x : Nat) (y : Nat) 4).length → ∃ d : Nat, (ard (w : Nat) (h : Nat) (x : Nat) (y : Nat) 4).getD i 0 = (d : Int) ∧ d < N := fun i hi => by
            have := ard_bd (by omega) (by omega) hlt2 hlt (ard_mem hi)
            rw [← HN.out.1] at this
            exact ⟨((ard (w : Nat) (h : Nat) (x : Nat) (y : Nat) 4).getD i 0).toNat, by omega, by omega⟩
          have hgs := gs_point (w := w) (h := h) (y := y) hlt2
          have hL4 := ard_len (w : Nat) (h : Nat) (x : Nat) (y : Nat) 4
          obtain ⟨l, hl⟩ : ∃ l, l = ard (w : Nat) (h : Nat) (x : Nat) (y : Nat) 4 := ⟨_, rfl⟩
          rw [← hl] at hown hbd hgs hL4 ⊢
          obtain ⟨A, hA⟩ : ∃ A, A = Av4 := ⟨_, rfl⟩
          obtain ⟨c, hcc⟩ : ∃ c, c = cv4 := ⟨_, rfl⟩
          rw [← hA, ← hcc] at hown ⊢
          clear hA hcc
          obtain ⟨L, hL⟩ : ∃ L, L = l.length := ⟨_, rfl⟩
          rw [← hL] at hown hbd hgs hL4 ⊢
          have H4 := Lib.hid (And.intro hbi4 (And.intro hz4 (And.intro hown hex4)))
          have HBD := Lib.hid hbd; have HGS := Lib.hid hgs; have HL := Lib.hid hL
          clear hbi4 hz4 hown hex4 hbd hgs hl hL hxx hin
          go_wp2_with fail
          go_loopw [113] (fun i wr => ∃ k : Nat, i = .int .i64 k ∧ k ≤ L ∧ Hid (BI wr g N (wrt l (gs w h (y * w + x)) k) ∧ wr.heap[z]? = some (.cells #[.slice (some ⟨g, 0, none⟩) N N] 24 (0, 0)) ∧ wr.ownsRow wp.heap.size 3 1 (.slice A L c) L (vi l) ∧ Ext W1 wr)) (fun i _ => L - (intOf i).toNat)
          case atStart => exact ⟨0, rfl, Nat.zero_le _, H4⟩
          case round =>
            clear H4
            obtain ⟨k, rfl, hk, hin⟩ := hrel
            by_cases hlt3 : k < L
            · have hIl := vi_il hin.out.2.2.1 HL.out.symm
              obtain ⟨d, hd, hdN⟩ := HBD.out k hlt3
              obtain ⟨b1, o1, rfl, -, e1⟩ := Vl.at hIl (Ext.refl _) hlt3
              dsimp only at e1
              rw [hd] at e1
              obtain ⟨r, hr⟩ : ∃ r, r = (k + 1) % L := ⟨_, rfl⟩
              have hrL : r < L := by rw [hr]; exact Nat.mod_lt _ (by omega)
              obtain ⟨b2, o2, eq2, -, e2⟩ := Vl.at hIl (Ext.refl _) hrL
              injection eq2 with eq2
              injection eq2 with eqb eqo
              subst eqb eqo
              obtain ⟨u, hu⟩ : ∃ u, u = l.getD r 0 := ⟨_, rfl⟩
              dsimp only at e2
              rw [← hu] at e2
              have hrem : ((k : Int) + 1).tmod L = r := by
                rw [Int.tmod_eq_emod_of_nonneg (by omega), hr, Int.natCast_emod, Int.natCast_add]; rfl
              have hL0 : 0 < L := by omega
              have HR := Lib.hid (And.intro hd (And.intro hr hu))
              obtain ⟨z0, z1, -⟩ := uno hin.out.2.1
              have HIL := Lib.hid hIl
              clear hd hr hu hIl
              go_upto_region 22 with fail
              have zd : wr.drew.cell? ⟨z, 0, none⟩ = some (.slice (some ⟨g, 0, none⟩) N N) := z0
              have ed : wr.drew.cell? ⟨b1, o1 + r, none⟩ = some (.int .i64 u) := e2
              have cd : wr.drew.cell? ⟨g, d, none⟩ = some (.int .i64 (wrt l (gs w h (y * w + x)) k d)) := Bk.cell hin.out.1 hdN
              have fd : wr.drew.frozen? ⟨g, d, none⟩ = false := Bk.free hin.out.1 d
              have b2' : BI (wr.drew.setCell ⟨g, d, none⟩ (.int .i64 u)) g N (up (wrt l (gs w h (y * w + x)) k) d u) := BI.set_ (Bk.drew hin.out.1) d u
              have z2' : (wr.drew.setCell ⟨g, d, none⟩ (.int .i64 u)).heap[z]? = some (.cells #[.slice (some ⟨g, 0, none⟩) N N] 24 (0, 0)) := (Below.heap_setCell wr.drew ⟨g, d, none⟩ _ z (fun e => hgz e.symm)).trans hin.out.2.1
              have o2' : (wr.drew.setCell ⟨g, d, none⟩ (.int .i64 u)).ownsRow wp.heap.size 3 1 (.slice (some ⟨b1, o1, none⟩) L c) L (vi l) := own_far (w := wr.drew) hin.out.2.2.1 ⟨g, d, none⟩ hgp _
              have x2' : Ext W1 (wr.drew.setCell ⟨g, d, none⟩ (.int .i64 u)) := (hin.out.2.2.2.drw).sc (Nat.le_of_eq HGW.out.1.symm)
              have F2 := Lib.hid (And.intro b2' (And.intro z2' (And.intro o2' x2')))
              clear b2' z2' o2' x2' z0 e1 e2
              go_region
              clear zd ed cd fd
              go_wp2
              go_roundw
              case rel =>
                refine ⟨k + 1, by go_num, by omega, Lib.hid ⟨?_, F2.out.2.1, F2.out.2.2.1, F2.out.2.2.2⟩⟩
                have e : wrt l (gs w h (y * w + x)) (k + 1) = up (wrt l (gs w h (y * w + x)) k) d u := by
                  show up _ (l.getD k 0).toNat (l.getD ((k + 1) % l.length) 0) = _
                  rw [← HL.out, HR.out.1, ← HR.out.2.1, ← HR.out.2.2]; rfl
                rw [e]; exact F2.out.1
              case measure => simp [intOf]; omega
            · obtain rfl : k = L := by omega
              have HX := hin
              clear hin
              go_wp2
              go_roundw
              case rel =>
                refine ⟨x + 1, by go_num, by omega, Lib.hid ⟨?_, HX.out.2.1, HX.out.2.2.2⟩⟩
                rw [← Nat.add_assoc, HGS.out]; exact HX.out.1
              case measure => simp [intOf]; omega
        · obtain rfl : x = w := by omega
          have HX := hin
          clear hin
          go_wp2
          go_roundw
          case rel =>
            refine ⟨y + 1, by go_num, by omega, Lib.hid ⟨?_, HX.out.2.1, HX.out.2.2⟩⟩
            rw [Nat.add_mul, Nat.one_mul]; exact HX.out.1
          case measure => simp [intOf]; omega
    · obtain rfl : y = h := by omega
      obtain ⟨z0, z1, -⟩ := uno hin.out.2.1
      obtain ⟨c0, f0, l0⟩ := uno HH.out
      have c0' := keepAt hin.out.2.2 l0 c0
      have f0' := ((bcell hin.out.2.2).2 _ 0 l0).trans (f0 0)
      have g0 : (wo.setCell ⟨W.heap.size, 0, none⟩ (.slice (some ⟨g, 0, none⟩) N N)).cell? ⟨W.heap.size, 0, none⟩ = some (.slice (some ⟨g, 0, none⟩) N N) := World.cell?_setCell_same _ _ _ c0'
      have b3 : BI (wo.setCell ⟨W.heap.size, 0, none⟩ (.slice (some ⟨g, 0, none⟩) N N)) g N (gs w y (y * w)) := Bk.far hin.out.1 (by show g ≠ W.heap.size; omega) _
      have x3 : Ext W (wo.setCell ⟨W.heap.size, 0, none⟩ (.slice (some ⟨g, 0, none⟩) N N)) := (HB.out.trans hin.out.2.2).sc (Nat.le_refl _)
      have HX := Lib.hid (And.intro b3 x3)
      clear hin b3 x3 c0 f0 l0 z1
      go_wp2
      exact bodyPost_ret (v := .tuple #[.agg #[.slice (some ⟨g, 0, none⟩) N N], .int .i64 0]) (by simp [results, Try.results28, go_sem, g0]) rfl ⟨g, rfl, by omega, HX.out.1, HX.out.2⟩
end Go.Proofs.Ytijhbmdbnnmogaa.G
namespace Go.Proofs.Ytijhbmdbnnmogaa.G
open Go.RowKit

/-- a number, its words (if it has any) in a block of the call's own -/
def RetF (w : World) (z : Int) (e : Ending) (w' : World) : Prop := ∃ b A n c, e = .returned (.agg #[.bool b, .slice A n c]) ∧ ZV w' (.agg #[.bool b, .slice A n c]) z ∧ Below w.heap.size w w' ∧ ∀ g o m, A = some ⟨g, o, m⟩ → w.heap.size ≤ g
set_option maxRecDepth 100000 in
theorem intOfF_zero (a : Value) (w : World) (ha : ZV w a 0) : Calls Try.prog 56 #[a] w (RetF w 0) := by
  obtain ⟨A, n, c, rfl, -, -, -⟩ := ha.open_
  obtain ⟨p, hp⟩ : ∃ p, p = decide ((0 : Int) < 0) := ⟨_, rfl⟩
  rw [← hp] at ha ⊢
  clear hp
  have Ha := Lib.hid ha; clear ha
  go_enter Try.func56, Try.ntmps56
  go_wp2_with fail
  have hb2 := below2 w (Obj.cells #[.bool p, .slice A n c] 88) (Obj.cells #[.bool false, .slice none 0 0] 76)
  refine (signZ_any 0 _ _ (Ha.out.below hb2)).mono ?_
  rintro e w1 ⟨rfl, hb1⟩
  rw [Int.sign_zero]
  have hR := (RB.b2 w false none 0 0 76 (Obj.cells #[.bool p, .slice A n c] 88)).below hb1 (by simp)
  obtain ⟨a0, A0, n0, c0, k10, k11, k20, k21⟩ := hR.facts
  have s0 := hR.set0 false (.slice none 0 0)
  have s1 := hR.set1 false (.slice none 0 0)
  have hb := below_set2 (g := w.heap.size + 1) (i := 0) (j := 1) (hb2.trans (hb1.mono (by simp; omega))) (by omega) (.bool false) (.slice none 0 0)
  have Hb := Lib.hid hb; clear hb hb1 hb2 hR
  go_wp2
  exact bodyPost_ret (v := .agg #[.bool false, .slice none 0 0]) (by simp [results, Try.results56, go_sem, s0, s1]) rfl ⟨_, _, _, _, rfl, ZV.mk (by simp) (by rw [Int.natAbs_zero, dig_zero]; exact Wd.nil_ _), Hb.out, fun _ _ _ h => by cases h⟩

set_option maxRecDepth 100000 in
theorem intOfF_ne (z : Int) (a : Value) (w : World) (ha : ZV w a z) (hz : z ≠ 0) (hlen : (dig z.natAbs).length ≤ 1000000) : Calls Try.prog 56 #[a] w (RetF w z) := by
  obtain ⟨A, n, c, rfl, hv, hn, -⟩ := ha.open_
  have hnp : 0 < n := by rw [hn]; exact dig_len_pos.2 (by omega)
  obtain ⟨A', c', he, -, -, hok, hcells⟩ := hv
  injection he with e1 e2 e3
  subst e1 e3
  obtain ⟨b, off, rfl, hbl, hc⟩ := hcells (by rw [← e2]; exact hnp)
  clear e2
  obtain ⟨p, hp⟩ : ∃ p, p = decide (z < 0) := ⟨_, rfl⟩
  rw [← hp] at ha ⊢
  obtain ⟨l, hl⟩ : ∃ l, l = dig z.natAbs := ⟨_, rfl⟩
  rw [← hl] at hn hok hc hlen
  have hn6 : n ≤ 1000000 := by omega
  have Ha := Lib.hid ha; clear ha
  have Hc := Lib.hid hc; clear hc
  have Hp := Lib.hid hp; clear hp
  have Hn := Lib.hid hn; clear hn hlen hcells
  have Hl := Lib.hid hl; clear hl
  go_enter Try.func56, Try.ntmps56
  go_wp2_with fail
  have hb2 := below2 w (Obj.cells #[.bool p, .slice (some ⟨b, off, none⟩) n c] 88) (Obj.cells #[.bool false, .slice none 0 0] 76)
  have o10 := RB.b1 w p (some ⟨b, off, none⟩) n c 88 (Obj.cells #[.bool false, .slice none 0 0] 76)
  refine (signZ_any z _ _ (Ha.out.below hb2)).mono ?_
  rintro e w1 ⟨rfl, hb1⟩
  obtain ⟨sg, hsg⟩ : ∃ sg, sg = z.sign := ⟨_, rfl⟩
  rw [← hsg]
  have hsg0 : (sg == 0) = false := by rw [hsg]; simpa using hz
  clear hsg
  have z1 : w.heap.size + 1 + 1 ≤ w1.heap.size := by have := hb1.size; simpa using this
  have q0 : w1.cell? ⟨w.heap.size, 0, none⟩ = some (.bool p) := keepAt hb1 (by simp <;> omega) (by rw [World.cell?_alloc_past _ _ _ (by simp), World.cell?_alloc_new]; rfl)
  have q1 : w1.cell? ⟨w.heap.size, 1, none⟩ = some (.slice (some ⟨b, off, none⟩) n c) := keepAt hb1 (by simp <;> omega) (by rw [World.cell?_alloc_past _ _ _ (by simp), World.cell?_alloc_new]; rfl)
  have hR1 := (RB.b2 w false none 0 0 76 (Obj.cells #[.bool p, .slice (some ⟨b, off, none⟩) n c] 88)).below hb1 (by simp)
  have hb01 := hb2.trans (hb1.mono (by simp; omega))
  have hmk : ∀ w, (Instr.makeSlice 74 (.int .i64 (n : Int)) (.int .i64 (n : Int))).run Try.prog w = .ok (.slice (some ⟨w.heap.size, 0, none⟩) n n) (w.alloc (.cells (U32s (zeros n)) 105)) := fun w => make_u32 74 Try.underlying74 n (by omega) w
  have hbk : Blk (w1.alloc (.cells (U32s (zeros n)) 105)) w1.heap.size (zeros n) := heap_alloc_new _ _
  have hb02 : Below w.heap.size w (w1.alloc (.cells (U32s (zeros n)) 105)) := hb01.alloc hb01.size _
  have hcp : ∀ ty, (Builtin.copy_ #[74, 86] ty #[.slice (some ⟨w1.heap.size, 0, none⟩) n n, .slice (some ⟨b, off, none⟩) n c]).run Try.prog (w1.alloc (.cells (U32s (zeros n)) 105)) = .ok (.int .i64 n) ((w1.alloc (.cells (U32s (zeros n)) 105)).setRow w1.heap.size (U32s l)) :=
    fun ty => copy_u32 74 86 ty Try.underlying74 _ _ n c b off l Hn.out hbk (fun j hj => (hb02.cell (p := ⟨b, off + j, none⟩) hbl).trans (Hc.out j hj))
  have hR2 := (hR1.alloc (.cells (U32s (zeros n)) 105)).setRow (by omega) (U32s l) (h := w1.heap.size)
  have t0 : ((w1.alloc (.cells (U32s (zeros n)) 105)).setRow w1.heap.size (U32s l)).cell? ⟨w.heap.size, 0, none⟩ = some (.bool p) := by rw [cell_setRow (by omega), World.cell?_alloc_past _ _ _ (by omega)]; exact q0
  have t1 : ((w1.alloc (.cells (U32s (zeros n)) 105)).setRow w1.heap.size (U32s l)).cell? ⟨w.heap.size, 1, none⟩ = some (.slice (some ⟨b, off, none⟩) n c) := by rw [cell_setRow (by omega), World.cell?_alloc_past _ _ _ (by omega)]; exact q1
  have u0 : (w1.alloc (.cells (U32s (zeros n)) 105)).cell? ⟨w.heap.size, 0, none⟩ = some (.bool p) := by rw [World.cell?_alloc_past _ _ _ (by omega)]; exact q0
  have u1 : (w1.alloc (.cells (U32s (zeros n)) 105)).cell? ⟨w.heap.size, 1, none⟩ = some (.slice (some ⟨b, off, none⟩) n c) := by rw [World.cell?_alloc_past _ _ _ (by omega)]; exact q1
  have hnl := Hn.out
  have hw := (hbk.setRow (l' := l)).wd hok (by omega) n (by omega) (by omega)
  rw [← hnl] at hw
  have hb03 : Below w.heap.size w ((w1.alloc (.cells (U32s (zeros n)) 105)).setRow w1.heap.size (U32s l)) := below_setRow hb02 hb01.size _
  obtain ⟨a0, A0, n0, c0, k10, k11, k20, k21⟩ := hR2.facts
  have s0 := hR2.set0 p (.slice (some ⟨w1.heap.size, 0, none⟩) n n)
  have s1 := hR2.set1 p (.slice (some ⟨w1.heap.size, 0, none⟩) n n)
  have fin := And.intro (hw.rb hR2 (.bool p) (.slice (some ⟨w1.heap.size, 0, none⟩) n n)) (below_set2 (g := w.heap.size + 1) (i := 0) (j := 1) hb03 (by omega) (.bool p) (.slice (some ⟨w1.heap.size, 0, none⟩) n n))
  have Fin := Lib.hid fin
  clear fin hw hb03 hR2 hbk hb02 hb01 hR1 hb1 hb2 o10 hnl
  go_wp2
  refine bodyPost_ret (v := .agg #[.bool p, .slice (some ⟨w1.heap.size, 0, none⟩) n n]) (by simp [results, Try.results56, go_sem, s0, s1]) rfl ⟨_, _, _, _, rfl, ZV.mk Hp.out ?_, Fin.out.2, fun g o m h => by injection h with h; injection h with h; omega⟩
  rw [← Hl.out]
  exact Fin.out.1
theorem intOfF_any (z : Int) (a : Value) (w : World) (ha : ZV w a z) (hlen : (dig z.natAbs).length ≤ 1000000) : Calls Try.prog 56 #[a] w (RetF w z) := by
  by_cases hz : z = 0
  · subst hz; exact intOfF_zero a w ha
  · exact intOfF_ne z a w ha hz hlen

set_option maxRecDepth 100000 in
theorem fromIntF_any (n : Int) (w : World) (h1 : -9223372036854775808 ≤ n) (h2 : n ≤ 9223372036854775807) : Calls Try.prog 47 #[.int .i64 n] w (RetF w n) := by
  have hlen := int_len h1 h2
  have Hlen := Lib.hid hlen; clear hlen
  go_enter Try.func47, Try.ntmps47
  go_wp2_with fail
  have hb0 := below1 w (Obj.cells #[.bool false, .slice none 0 0] 76)
  refine (asAgg (smallE_any n _ h1 h2)).mono ?_
  rintro e w1 ⟨b4, A4, n4, c4, rfl, hr, hb1⟩
  have hR1 := Lib.hid ((RB.c1 w false none 0 0 76).below hb1 (by simp))
  have hb01 := Lib.hid (hb0.trans (hb1.mono (by simp)))
  have Hr := Lib.hid hr; clear hr hb0 hb1
  go_wp2_with fail
  refine (intOfF_any n _ _ Hr.out (by have := Hlen.out; omega)).mono ?_
  rintro e w2 ⟨b5, A5, n5, c5, rfl, hr5, hb2, hfr⟩
  have HS := Lib.hid (And.intro hb01.out.size hfr)
  clear hfr
  have hR := hR1.out.below hb2 hR1.out.lt
  obtain ⟨a0, A0, n0, c0, k10, k11, k20, k21⟩ := hR.facts
  have s0 := hR.set0 b5 (.slice A5 n5 c5)
  have s1 := hR.set1 b5 (.slice A5 n5 c5)
  have fin := And.intro (hr5.rb hR (.bool b5) (.slice A5 n5 c5)) (below_set2 (g := w.heap.size) (i := 0) (j := 1) (hb01.out.trans (hb2.mono hb01.out.size)) (Nat.le_refl _) (.bool b5) (.slice A5 n5 c5))
  have hz1 : w.heap.size ≤ w1.heap.size := HS.out.1
  have HF := Lib.hid (And.intro hz1 HS.out.2)
  have Fin := Lib.hid fin; clear fin hb2 hR hz1
  go_wp2
  exact bodyPost_ret (v := .agg #[.bool b5, .slice A5 n5 c5]) (by simp [results, Try.results47, go_sem, s0, s1]) rfl ⟨_, _, _, _, rfl, Fin.out.1, Fin.out.2, fun g o m h => Nat.le_trans HF.out.1 (HF.out.2 g o m h)⟩
/-- FromInt: the words lie behind all that was there -/
theorem zfromF_any (z : Int) (w : World) (h1 : -9223372036854775808 ≤ z) (h2 : z ≤ 9223372036854775807) :
    Calls Try.prog 47 #[.int .i64 z] w fun e w' => ∃ b A n c, e = .returned (.agg #[.bool b, .slice A n c]) ∧ Zv w' b A n c z ∧ Ext w w' ∧ ∀ g o m, A = some ⟨g, o, m⟩ → w.heap.size ≤ g := by
  refine (fromIntF_any z w h1 h2).mono ?_
  rintro e w' ⟨b, A, n, c, rfl, hz, hb, hf⟩
  exact ⟨b, A, n, c, rfl, hz, hb, hf⟩
end Go.Proofs.Ytijhbmdbnnmogaa.G
