/- Walks: sizes and moves that fit. -/
import Derived.Test.YtgjanbgehbpciaaV1
namespace Go.Proofs.Ytgjanbgehbpciaa
open Go.RowKit

set_option maxRecDepth 100000 in
theorem valid_any (w h : Int) (W : World) :
    Calls Try.prog 53 #[.agg #[.int .i64 w, .int .i64 h]] W fun e W' => e = .returned (.bool (okSize w h)) ∧ Below W.heap.size W W' := by
  have hb := Lib.hid (below1 W (.cells #[.int .i64 w, .int .i64 h] 84))
  obtain ⟨b, hbe⟩ : ∃ b, b = okSize w h := ⟨_, rfl⟩
  rw [← hbe]
  unfold okSize at hbe
  by_cases h0 : 1 ≤ w
  rotate_left
  · simp [h0] at hbe
    subst hbe
    have g0 : decide (1 ≤ w) = false := by simp; omega
    clear h0
    go_enter Try.func53, Try.ntmps53
    go_wp2
    go_ret
    exact ⟨rfl, hb.out⟩
  have g0 : decide (1 ≤ w) = true := by simp; omega
  by_cases h1 : w ≤ 8
  rotate_left
  · simp [h0, h1] at hbe
    subst hbe
    have g1 : decide (w ≤ 8) = false := by simp; omega
    clear h1
    go_enter Try.func53, Try.ntmps53
    go_wp2
    go_ret
    exact ⟨rfl, hb.out⟩
  have g1 : decide (w ≤ 8) = true := by simp; omega
  by_cases h2 : 1 ≤ h
  rotate_left
  · simp [h0, h1, h2] at hbe
    subst hbe
    have g2 : decide (1 ≤ h) = false := by simp; omega
    clear h2
    go_enter Try.func53, Try.ntmps53
    go_wp2
    go_ret
    exact ⟨rfl, hb.out⟩
  have g2 : decide (1 ≤ h) = true := by simp; omega
  by_cases h3 : h ≤ 8
  rotate_left
  · simp [h0, h1, h2, h3] at hbe
    subst hbe
    have g3 : decide (h ≤ 8) = false := by simp; omega
    clear h3
    go_enter Try.func53, Try.ntmps53
    go_wp2
    go_ret
    exact ⟨rfl, hb.out⟩
  have g3 : decide (h ≤ 8) = true := by simp; omega
  simp [h0, h1, h2, h3] at hbe
  subst hbe
  go_enter Try.func53, Try.ntmps53
  go_wp2
  go_ret
  exact ⟨rfl, hb.out⟩

set_option maxRecDepth 100000 in
theorem sizeR_any (w h : Int) (W : World) :
    Calls Try.prog 25 #[.int .i64 w, .int .i64 h] W fun e W' => e = .returned (.bool (okSize w h)) ∧ Below W.heap.size W W' := by
  have hb := Lib.hid (Below.refl W.heap.size W)
  obtain ⟨b, hbe⟩ : ∃ b, b = okSize w h := ⟨_, rfl⟩
  rw [← hbe]
  unfold okSize at hbe
  by_cases h0 : 1 ≤ w
  rotate_left
  · simp [h0] at hbe
    subst hbe
    have g0 : decide (1 ≤ w) = false := by simp; omega
    clear h0
    go_enter Try.func25, Try.ntmps25
    go_wp2
    go_ret
    exact ⟨rfl, hb.out⟩
  have g0 : decide (1 ≤ w) = true := by simp; omega
  by_cases h1 : w ≤ 8
  rotate_left
  · simp [h0, h1] at hbe
    subst hbe
    have g1 : decide (w ≤ 8) = false := by simp; omega
    clear h1
    go_enter Try.func25, Try.ntmps25
    go_wp2
    go_ret
    exact ⟨rfl, hb.out⟩
  have g1 : decide (w ≤ 8) = true := by simp; omega
  by_cases h2 : 1 ≤ h
  rotate_left
  · simp [h0, h1, h2] at hbe
    subst hbe
    have g2 : decide (1 ≤ h) = false := by simp; omega
    clear h2
    go_enter Try.func25, Try.ntmps25
    go_wp2
    go_ret
    exact ⟨rfl, hb.out⟩
  have g2 : decide (1 ≤ h) = true := by simp; omega
  by_cases h3 : h ≤ 8
  rotate_left
  · simp [h0, h1, h2, h3] at hbe
    subst hbe
    have g3 : decide (h ≤ 8) = false := by simp; omega
    clear h3
    go_enter Try.func25, Try.ntmps25
    go_wp2
    go_ret
    exact ⟨rfl, hb.out⟩
  have g3 : decide (h ≤ 8) = true := by simp; omega
  simp [h0, h1, h2, h3] at hbe
  subst hbe
  go_enter Try.func25, Try.ntmps25
  go_wp2
  go_ret
  exact ⟨rfl, hb.out⟩

set_option maxRecDepth 100000 in
theorem has_any (w h : Int) (m : Mv) (W : World) :
    Calls Try.prog 51 #[.agg #[.int .i64 w, .int .i64 h], .agg #[.int .i64 m.dx, .int .i64 m.dy, .int .i64 m.t, .bool m.f]] W fun e W' => e = .returned (.bool (has w h m)) ∧ Below W.heap.size W W' := by
  have hb := Lib.hid ((below1 W (.cells #[.int .i64 w, .int .i64 h] 84)).trans ((below1 _ (.cells #[.int .i64 m.dx, .int .i64 m.dy, .int .i64 m.t, .bool m.f] 31)).mono (by simp)))
  obtain ⟨b, hbe⟩ : ∃ b, b = has w h m := ⟨_, rfl⟩
  rw [← hbe]
  unfold has at hbe
  by_cases h0 : 0 ≤ m.dx
  rotate_left
  · simp [h0] at hbe
    subst hbe
    have g0 : decide (0 ≤ m.dx) = false := by simp; omega
    clear h0
    go_enter Try.func51, Try.ntmps51
    go_wp2
    go_ret
    exact ⟨rfl, hb.out⟩
  have g0 : decide (0 ≤ m.dx) = true := by simp; omega
  by_cases h1 : m.dx < w
  rotate_left
  · simp [h0, h1] at hbe
    subst hbe
    have g1 : decide (m.dx < w) = false := by simp; omega
    clear h1
    go_enter Try.func51, Try.ntmps51
    go_wp2
    go_ret
    exact ⟨rfl, hb.out⟩
  have g1 : decide (m.dx < w) = true := by simp; omega
  by_cases h2 : 0 ≤ m.dy
  rotate_left
  · simp [h0, h1, h2] at hbe
    subst hbe
    have g2 : decide (0 ≤ m.dy) = false := by simp; omega
    clear h2
    go_enter Try.func51, Try.ntmps51
    go_wp2
    go_ret
    exact ⟨rfl, hb.out⟩
  have g2 : decide (0 ≤ m.dy) = true := by simp; omega
  by_cases h3 : m.dy < h
  rotate_left
  · simp [h0, h1, h2, h3] at hbe
    subst hbe
    have g3 : decide (m.dy < h) = false := by simp; omega
    clear h3
    go_enter Try.func51, Try.ntmps51
    go_wp2
    go_ret
    exact ⟨rfl, hb.out⟩
  have g3 : decide (m.dy < h) = true := by simp; omega
  by_cases h4 : 0 ≤ m.t
  rotate_left
  · simp [h0, h1, h2, h3, h4] at hbe
    subst hbe
    have g4 : decide (0 ≤ m.t) = false := by simp; omega
    clear h4
    go_enter Try.func51, Try.ntmps51
    go_wp2
    go_ret
    exact ⟨rfl, hb.out⟩
  have g4 : decide (0 ≤ m.t) = true := by simp; omega
  by_cases h5 : m.t < 4
  rotate_left
  · simp [h0, h1, h2, h3, h4, h5] at hbe
    subst hbe
    have g5 : decide (m.t < 4) = false := by simp; omega
    clear h5
    go_enter Try.func51, Try.ntmps51
    go_wp2
    go_ret
    exact ⟨rfl, hb.out⟩
  have g5 : decide (m.t < 4) = true := by simp; omega
  by_cases h6 : m.t % 2 = 0
  · simp [h0, h1, h2, h3, h4, h5, h6] at hbe
    subst hbe
    have g6 : (m.t % 2 == 0) = true := by simp; omega
    clear h6
    go_enter Try.func51, Try.ntmps51
    go_wp2
    go_ret
    exact ⟨rfl, hb.out⟩
  · have g6 : (m.t % 2 == 0) = false := by simp; omega
    by_cases h7 : w = h
    · rw [decide_eq_true h0, decide_eq_true h1, decide_eq_true h2, decide_eq_true h3, decide_eq_true h4, decide_eq_true h5, decide_eq_true h7] at hbe
      obtain rfl : b = true := by rw [hbe]; simp
      clear hbe
      have g7 : (w == h) = true := by simp; omega
      clear h6 h7
      go_enter Try.func51, Try.ntmps51
      go_wp2
      go_ret
      exact ⟨rfl, hb.out⟩
    · simp [h0, h1, h2, h3, h4, h5, h6, h7] at hbe
      subst hbe
      have g7 : (w == h) = false := by simp; omega
      clear h6 h7
      go_enter Try.func51, Try.ntmps51
      go_wp2
      go_ret
      exact ⟨rfl, hb.out⟩

set_option maxRecDepth 100000 in
theorem fits_any (w h : Int) (m : Mv) (W : World) :
    Calls Try.prog 19 #[.int .i64 w, .int .i64 h, .agg #[.int .i64 m.dx, .int .i64 m.dy, .int .i64 m.t, .bool m.f]] W fun e W' => e = .returned (.bool (has w h m)) ∧ Below W.heap.size W W' := by
  have hb := Lib.hid (below1 W (.cells #[.int .i64 m.dx, .int .i64 m.dy, .int .i64 m.t, .bool m.f] 26))
  obtain ⟨b, hbe⟩ : ∃ b, b = has w h m := ⟨_, rfl⟩
  rw [← hbe]
  unfold has at hbe
  by_cases h0 : 0 ≤ m.dx
  rotate_left
  · simp [h0] at hbe
    subst hbe
    have g0 : decide (0 ≤ m.dx) = false := by simp; omega
    clear h0
    go_enter Try.func19, Try.ntmps19
    go_wp2
    go_ret
    exact ⟨rfl, hb.out⟩
  have g0 : decide (0 ≤ m.dx) = true := by simp; omega
  by_cases h1 : m.dx < w
  rotate_left
  · simp [h0, h1] at hbe
    subst hbe
    have g1 : decide (m.dx < w) = false := by simp; omega
    clear h1
    go_enter Try.func19, Try.ntmps19
    go_wp2
    go_ret
    exact ⟨rfl, hb.out⟩
  have g1 : decide (m.dx < w) = true := by simp; omega
  by_cases h2 : 0 ≤ m.dy
  rotate_left
  · simp [h0, h1, h2] at hbe
    subst hbe
    have g2 : decide (0 ≤ m.dy) = false := by simp; omega
    clear h2
    go_enter Try.func19, Try.ntmps19
    go_wp2
    go_ret
    exact ⟨rfl, hb.out⟩
  have g2 : decide (0 ≤ m.dy) = true := by simp; omega
  by_cases h3 : m.dy < h
  rotate_left
  · simp [h0, h1, h2, h3] at hbe
    subst hbe
    have g3 : decide (m.dy < h) = false := by simp; omega
    clear h3
    go_enter Try.func19, Try.ntmps19
    go_wp2
    go_ret
    exact ⟨rfl, hb.out⟩
  have g3 : decide (m.dy < h) = true := by simp; omega
  by_cases h4 : 0 ≤ m.t
  rotate_left
  · simp [h0, h1, h2, h3, h4] at hbe
    subst hbe
    have g4 : decide (0 ≤ m.t) = false := by simp; omega
    clear h4
    go_enter Try.func19, Try.ntmps19
    go_wp2
    go_ret
    exact ⟨rfl, hb.out⟩
  have g4 : decide (0 ≤ m.t) = true := by simp; omega
  by_cases h5 : m.t < 4
  rotate_left
  · simp [h0, h1, h2, h3, h4, h5] at hbe
    subst hbe
    have g5 : decide (m.t ≤ 3) = false := by simp; omega
    clear h5
    go_enter Try.func19, Try.ntmps19
    go_wp2
    go_ret
    exact ⟨rfl, hb.out⟩
  have g5 : decide (m.t ≤ 3) = true := by simp; omega
  by_cases h6 : w = h
  · rw [decide_eq_true h0, decide_eq_true h1, decide_eq_true h2, decide_eq_true h3, decide_eq_true h4, decide_eq_true h5, decide_eq_true h6] at hbe
    obtain rfl : b = true := by rw [hbe]; simp
    clear hbe
    have g6 : (w == h) = true := by simp; omega
    clear h6
    go_enter Try.func19, Try.ntmps19
    go_wp2
    go_ret
    exact ⟨rfl, hb.out⟩
  · have g6 : (w == h) = false := by simp; omega
    by_cases h7 : m.t % 2 = 0
    · simp [h0, h1, h2, h3, h4, h5, h6, h7] at hbe
      subst hbe
      have g7 : (m.t % 2 == 0) = true := by simp; omega
      clear h6 h7
      go_enter Try.func19, Try.ntmps19
      go_wp2
      go_ret
      exact ⟨rfl, hb.out⟩
    · simp [h0, h1, h2, h3, h4, h5, h6, h7] at hbe
      subst hbe
      have g7 : (m.t % 2 == 0) = false := by simp; omega
      clear h6 h7
      go_enter Try.func19, Try.ntmps19
      go_wp2
      go_ret
      exact ⟨rfl, hb.out⟩


end Go.Proofs.Ytgjanbgehbpciaa
