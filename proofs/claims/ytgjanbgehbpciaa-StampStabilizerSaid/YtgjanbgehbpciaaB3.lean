/- Walks: slices.Equal of moves. -/
import Derived.Test.YtgjanbgehbpciaaB2
import Derived.Deep.QuietTactic
import Derived.BigQuiet
namespace Go.Proofs.Ytgjanbgehbpciaa
open Go.RowKit

theorem mv_ne4 {x y : Mv} (h : x ≠ y) : x.dx ≠ y.dx ∨ x.dy ≠ y.dy ∨ x.t ≠ y.t ∨ x.f ≠ y.f := by
  by_cases a1 : x.dx = y.dx
  · by_cases a2 : x.dy = y.dy
    · by_cases a3 : x.t = y.t
      · by_cases a4 : x.f = y.f
        · exact absurd (mv_ext a1 a2 a3 a4) h
        · exact .inr (.inr (.inr a4))
      · exact .inr (.inr (.inl a3))
    · exact .inr (.inl a2)
  · exact .inl a1

set_option maxHeartbeats 4000000 in
set_option maxRecDepth 100000 in
theorem equalM_c (b1 o1 c1 b2 o2 c2 n : Nat) (l k : List Mv) (W : World) (hn : n ≤ 1000) (hl : n = l.length) (hk : n = k.length) (hb1 : b1 < W.heap.size) (hb2 : b2 < W.heap.size)
    (h1 : ∀ j m, l[j]? = some m → W.cell? ⟨b1, o1 + j * 4, none⟩ = some (.int .i64 m.dx) ∧ W.cell? ⟨b1, o1 + (j * 4 + 1), none⟩ = some (.int .i64 m.dy) ∧ W.cell? ⟨b1, o1 + (j * 4 + 2), none⟩ = some (.int .i64 m.t) ∧ W.cell? ⟨b1, o1 + (j * 4 + 3), none⟩ = some (.bool m.f))
    (h2 : ∀ j m, k[j]? = some m → W.cell? ⟨b2, o2 + j * 4, none⟩ = some (.int .i64 m.dx) ∧ W.cell? ⟨b2, o2 + (j * 4 + 1), none⟩ = some (.int .i64 m.dy) ∧ W.cell? ⟨b2, o2 + (j * 4 + 2), none⟩ = some (.int .i64 m.t) ∧ W.cell? ⟨b2, o2 + (j * 4 + 3), none⟩ = some (.bool m.f)) :
    Calls Try.prog 32 #[.slice (some ⟨b1, o1, none⟩) n c1, .slice (some ⟨b2, o2, none⟩) n c2] W fun e W' => e = .returned (.bool (decide (l = k))) ∧ Ext W W' := by
  have H1 := Lib.hid h1; have H2 := Lib.hid h2; have HL := Lib.hid hl; have HK := Lib.hid hk; clear h1 h2 hl hk
  go_enter Try.func32, Try.ntmps32
  go_wp2_with fail
  go_loopw [13] (fun i wr => ∃ j : Nat, i = .int .i64 j ∧ j ≤ n ∧ Ext W wr ∧ l.take j = k.take j) (fun i _ => n - (intOf i).toNat)
  case atStart => exact ⟨0, rfl, by omega, Ext.refl _, rfl⟩
  case round =>
    obtain ⟨j, rfl, hj, he, htk⟩ := hrel
    have HE := Lib.hid he; have HT := Lib.hid htk; clear he htk
    by_cases hlt : j < n
    · obtain ⟨x, hx⟩ : ∃ x, l[j]? = some x := ⟨l[j]'(by rw [← HL.out]; exact hlt), List.getElem?_eq_getElem _⟩
      obtain ⟨y, hy⟩ : ∃ y, k[j]? = some y := ⟨k[j]'(by rw [← HK.out]; exact hlt), List.getElem?_eq_getElem _⟩
      obtain ⟨a0, a1, a2, a3⟩ := H1.out j x hx
      obtain ⟨b0, b1', b2', b3⟩ := H2.out j y hy
      have d0 := keepAt HE.out hb1 a0; have d1 := keepAt HE.out hb1 a1; have d2 := keepAt HE.out hb1 a2; have d3 := keepAt HE.out hb1 a3
      have e0 := keepAt HE.out hb2 b0; have e1 := keepAt HE.out hb2 b1'; have e2 := keepAt HE.out hb2 b2'; have e3 := keepAt HE.out hb2 b3
      clear a0 a1 a2 a3 b0 b1' b2' b3
      rw [← Nat.add_assoc] at d1 d2 d3 e1 e2 e3
      have HX := Lib.hid hx; have HY := Lib.hid hy; clear hx hy
      by_cases hxy : x = y
      · subst hxy
        go_wp2_with fail
        go_quiet (fail)
        clear d0 d1 d2 d3 e0 e1 e2 e3
        go_wp2_with fail
        go_roundw
        case rel => exact ⟨j + 1, by go_num, by omega, Ext.drwN HE.out _, by rw [List.take_add_one, List.take_add_one, HT.out, HX.out, HY.out]⟩
        case measure => simp [intOf]; omega
      · have hd : decide (l = k) = false := by
          rw [decide_eq_false_iff_not]
          rintro rfl
          rw [HX.out] at HY
          have := HY.out
          injection this with this
          exact hxy this
        have HD := Lib.hid hd; clear hd
        have h4 := mv_ne4 hxy
        clear hxy
        obtain ⟨xx, xy, xt, xf⟩ := x
        obtain ⟨yx, yy, yt, yf⟩ := y
        simp only at h4 d0 d1 d2 d3 e0 e1 e2 e3
        rcases h4 with h4 | h4 | h4 | h4
        · go_wp2_with fail
          go_quiet (fail)
          go_wp2
          go_ret
          exact ⟨by rw [HD.out]; rfl, Ext.drwN HE.out _⟩
        · go_wp2_with fail
          go_quiet (fail)
          go_wp2
          go_ret
          exact ⟨by rw [HD.out]; rfl, Ext.drwN HE.out _⟩
        · go_wp2_with fail
          go_quiet (fail)
          go_wp2
          go_ret
          exact ⟨by rw [HD.out]; rfl, Ext.drwN HE.out _⟩
        · go_wp2_with fail
          go_quiet (fail)
          go_wp2
          go_ret
          exact ⟨by rw [HD.out]; rfl, Ext.drwN HE.out _⟩
    · obtain rfl : j = n := by omega
      have hd : decide (l = k) = true := by
        rw [decide_eq_true_iff]
        have := HT.out
        rwa [List.take_of_length_le (by rw [← HL.out]; exact Nat.le_refl _), List.take_of_length_le (by rw [← HK.out]; exact Nat.le_refl _)] at this
      have HD := Lib.hid hd; clear hd
      go_wp2
      go_ret
      exact ⟨by rw [HD.out]; rfl, HE.out⟩

set_option maxRecDepth 100000 in
theorem equalM_len (A B : Option Addr) (n c n' c' : Nat) (W : World) (hn : n ≤ 1000) (hn' : n' ≤ 1000) (hne : n ≠ n') :
    Calls Try.prog 32 #[.slice A n c, .slice B n' c'] W fun e W' => e = .returned (.bool false) ∧ Ext W W' := by
  have g0 : ((n : Int) != (n' : Int)) = true := by simp; omega
  clear hne
  go_enter Try.func32, Try.ntmps32
  go_wp2
  go_ret
  exact ⟨rfl, Ext.refl _⟩
set_option maxRecDepth 100000 in
theorem equalM_zero (A B : Option Addr) (c c' : Nat) (W : World) :
    Calls Try.prog 32 #[.slice A 0 c, .slice B 0 c'] W fun e W' => e = .returned (.bool true) ∧ Ext W W' := by
  go_enter Try.func32, Try.ntmps32
  go_wp2
  go_loopw [13] (fun i wr => i = .int .i64 0 ∧ wr = W) (fun _ _ => 0)
  case atStart => exact ⟨rfl, rfl⟩
  case round =>
    obtain ⟨rfl, rfl⟩ := hrel
    go_wp2
    go_ret
    exact ⟨rfl, Ext.refl _⟩
/-- slices.Equal of moves -/
theorem equalM_any (u v : Value) (l k : List Mv) (W : World) (hl : Ml W u l) (hk : Ml W v k) (h1 : l.length ≤ 1000) (h2 : k.length ≤ 1000) :
    Calls Try.prog 32 #[u, v] W fun e W' => e = .returned (.bool (decide (l = k))) ∧ Ext W W' := by
  obtain ⟨A, c, rfl, a1, a2, a4⟩ := hl
  obtain ⟨B, c', rfl, b1, b2, b4⟩ := hk
  by_cases hne : l.length = k.length
  · by_cases h0 : 0 < l.length
    · obtain ⟨p, off, rfl, hb, hc⟩ := a4 h0
      obtain ⟨q, off', rfl, hb', hc'⟩ := b4 (by omega)
      rw [← hne]
      exact equalM_c p off c q off' c' l.length l k W h1 rfl hne hb hb' hc hc'
    · have e1 : l = [] := List.eq_nil_of_length_eq_zero (by omega)
      have e2 : k = [] := List.eq_nil_of_length_eq_zero (by omega)
      subst e1 e2
      exact equalM_zero A B c c' W
  · have hd : decide (l = k) = false := by
      rw [decide_eq_false_iff_not]
      rintro rfl
      exact hne rfl
    rw [hd]
    exact equalM_len A B _ c _ c' W h1 h2 hne
end Go.Proofs.Ytgjanbgehbpciaa
