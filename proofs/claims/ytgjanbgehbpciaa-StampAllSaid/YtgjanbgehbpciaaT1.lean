/- Walks: isColours, isLong, isBefore, isFirst. -/
import Derived.Test.YtgjanbgehbpciaaAm
import Derived.Test.YtgjanbgehbpciaaV15
namespace Go.Proofs.Ytgjanbgehbpciaa
open Go.RowKit

/-- is it a number of colours? -/
def colB (n : Int) : Bool := decide (1 ≤ n) && decide (n ≤ 8)
set_option maxRecDepth 100000 in
theorem isColours_any (n : Int) (W : World) : Calls Try.prog 71 #[.int .i64 n] W fun e W' => e = .returned (.bool (colB n)) ∧ W = W' := by
  obtain ⟨r, hr⟩ : ∃ r, r = colB n := ⟨_, rfl⟩
  rw [← hr]
  unfold colB at hr
  by_cases h1 : 1 ≤ n
  · by_cases h2 : n ≤ 8
    · have hr' : r = true := by rw [hr]; simp [h1, h2]
      have HR := Lib.hid hr'; clear hr hr'
      go_enter Try.func71, Try.ntmps71
      go_wp2
      go_ret
      exact ⟨by rw [HR.out]; rfl, rfl⟩
    · have hr' : r = false := by rw [hr]; simp [h2]
      have HR := Lib.hid hr'; clear hr hr'
      go_enter Try.func71, Try.ntmps71
      go_wp2
      go_ret
      exact ⟨by rw [HR.out]; rfl, rfl⟩
  · have hr' : r = false := by rw [hr]; simp [h1]
    have HR := Lib.hid hr'; clear hr hr'
    go_enter Try.func71, Try.ntmps71
    go_wp2
    go_ret
    exact ⟨by rw [HR.out]; rfl, rfl⟩

theorem pow_mono' {c i n : Nat} (hc : 1 ≤ c) (h : i ≤ n) : c ^ i ≤ c ^ n := Nat.pow_le_pow_right hc h
set_option maxRecDepth 100000 in
theorem isLong_any (c n : Nat) (W : World) (hc : 1 ≤ c ∧ c ≤ 8) (hn : n ≤ 64) : Calls Try.prog 72 #[.int .i64 c, .int .i64 n] W fun e W' => e = .returned (.bool (decide (4096 < c ^ n))) ∧ W = W' := by
  obtain ⟨r, hr⟩ : ∃ r, r = decide (4096 < c ^ n) := ⟨_, rfl⟩
  rw [← hr]
  have HR := Lib.hid hr; clear hr
  go_enter Try.func72, Try.ntmps72
  go_wp2
  go_loop [5, 7] (fun v i => ∃ k x : Nat, i = .int .i64 k ∧ k ≤ n ∧ v = .int .i64 x ∧ x ≤ 4096 ∧ Hid (x = c ^ k)) (fun _ i => n - (intOf i).toNat)
  case atStart => exact ⟨0, 1, rfl, by omega, rfl, by omega, Lib.hid (by simp)⟩
  case round =>
    obtain ⟨k, x, rfl, hk, rfl, hx, hp⟩ := hrel
    by_cases hlt : k < n
    · have hxc : x * c ≤ 4096 * 8 := Nat.mul_le_mul hx hc.2
      obtain ⟨y, hy⟩ : ∃ y, y = x * c := ⟨_, rfl⟩
      have hyi : (x : Int) * (c : Int) = (y : Nat) := by rw [hy]; simp
      have hyw : IntKind.i64.wrap ((x : Int) * (c : Int)) = (y : Nat) := by rw [hyi]; exact IntWalk.i64_in _ (by omega)
      have hyp : y = c ^ (k + 1) := by rw [hy, hp.out, Nat.pow_succ]
      have hyb : y ≤ 32768 := by omega
      have HY := Lib.hid hyp; clear hyp hy hxc hp
      by_cases hbig : 4096 < y
      · have hrt : r = true := by
          rw [HR.out, decide_eq_true_iff]
          have := pow_mono' hc.1 (show k + 1 ≤ n by omega)
          rw [← HY.out] at this; omega
        have HT := Lib.hid hrt; clear hrt
        go_wp2
        go_ret
        exact ⟨by rw [HT.out]; rfl, rfl⟩
      · go_wp2
        go_round
        case rel => exact ⟨k + 1, y, by go_num, by omega, rfl, by omega, HY⟩
        case measure => simp [intOf]; omega
    · obtain rfl : k = n := by omega
      have hrf : r = false := by rw [HR.out, decide_eq_false_iff_not, ← hp.out]; omega
      have HF := Lib.hid hrf; clear hrf hp
      go_wp2
      go_ret
      exact ⟨by rw [HF.out]; rfl, rfl⟩

/-- what is at the goals -/
def atG (cs : List Int) (gs : List Nat) : List Int := gs.map fun g => cs.getD g 0
theorem atG_at {cs : List Int} {gs : List Nat} {j : Nat} (hj : j < gs.length) : (atG cs gs).getD j 0 = cs.getD (gs.getD j 0) 0 := by
  unfold atG
  rw [List.getD_eq_getElem?_getD, List.getElem?_map, List.getElem?_eq_getElem hj, List.getD_eq_getElem?_getD (l := gs), List.getElem?_eq_getElem hj]
  rfl
theorem take_same {l k : List Int} {j n : Nat} (hl : l.length = n) (hk : k.length = n) (h : ∀ t, t < j → l.getD t 0 = k.getD t 0) : l.take j = k.take j := by
  apply List.ext_getElem
  · rw [List.length_take, List.length_take, hl, hk]
  · intro t h1 h2
    rw [List.length_take] at h1
    have := h t (by omega)
    rw [List.getElem_take, List.getElem_take]
    rw [List.getD_eq_getElem?_getD, List.getD_eq_getElem?_getD, List.getElem?_eq_getElem (by omega), List.getElem?_eq_getElem (by omega)] at this
    simpa using this
set_option maxHeartbeats 2000000 in
set_option maxRecDepth 100000 in
theorem isBefore_c (b1 o1 c1 b2 o2 c2 n : Nat) (cs : List Int) (gs : List Nat) (W : World) (hn : n ≤ 1000) (hl : cs.length = n) (hk : gs.length = n) (hg : ∀ j, j < n → gs.getD j 0 < n)
    (h1 : ∀ j, j < n → W.cell? ⟨b1, o1 + j, none⟩ = some (.int .i64 (cs.getD j 0))) (h2 : ∀ j, j < n → W.cell? ⟨b2, o2 + j, none⟩ = some (.int .i64 (gs.getD j 0 : Nat))) :
    Calls Try.prog 95 #[.slice (some ⟨b1, o1, none⟩) n c1, .slice (some ⟨b2, o2, none⟩) n c2] W fun e W' => e = .returned (.bool (ltL (atG cs gs) cs)) ∧ Ext W W' := by
  have H1 := Lib.hid h1; have H2 := Lib.hid h2; have HG := Lib.hid hg; clear h1 h2 hg
  obtain ⟨r, hr⟩ : ∃ r, r = ltL (atG cs gs) cs := ⟨_, rfl⟩
  rw [← hr]
  have Hr := Lib.hid hr; clear hr
  have hla : (atG cs gs).length = n := by unfold atG; rw [List.length_map, hk]
  have Hl := Lib.hid hl; have Hk := Lib.hid hk; have Ha := Lib.hid hla; clear hl hk hla
  go_enter Try.func95, Try.ntmps95
  go_wp2
  go_loopw [9] (fun i wr => ∃ q j : Nat, i = .int .i64 j ∧ j ≤ n ∧ wr = W.drewN q ∧ Hid (∀ t, t < j → (atG cs gs).getD t 0 = cs.getD t 0)) (fun i _ => n - (intOf i).toNat)
  case atStart => exact ⟨0, 0, rfl, Nat.zero_le _, rfl, Lib.hid (fun t ht => by omega)⟩
  case round =>
    obtain ⟨q, j, rfl, hj, rfl, hz⟩ := hrel
    by_cases hlt : j < n
    · have a2 := H2.out j hlt
      have hgj := HG.out j hlt
      have haj := atG_at (cs := cs) (gs := gs) (j := j) (by rw [Hk.out]; exact hlt)
      obtain ⟨g, hgg⟩ : ∃ g, g = gs.getD j 0 := ⟨_, rfl⟩
      rw [← hgg] at a2 hgj haj
      have a0 := H1.out g hgj
      have a1 := H1.out j hlt
      obtain ⟨x, hx⟩ : ∃ x, x = cs.getD g 0 := ⟨_, rfl⟩
      obtain ⟨y, hy⟩ : ∃ y, y = cs.getD j 0 := ⟨_, rfl⟩
      rw [← hx] at a0 haj
      rw [← hy] at a1
      have Hx := Lib.hid haj; have Hy := Lib.hid hy; clear hx hy hgg haj
      by_cases hxy : x = y
      · have hd : (x != y) = false := by simp [hxy]
        have Hxy := Lib.hid hxy; clear hxy
        go_wp2_with fail
        go_quiet (fail)
        go_wp2
        go_roundw
        case rel => exact ⟨_, j + 1, by go_num, by omega, rfl, Lib.hid (fun t ht => by
          by_cases e : t = j
          · rw [e, Hx.out, ← Hy.out]; exact Hxy.out
          · exact hz.out t (by omega))⟩
        case measure => simp [intOf]; omega
      · have hd : (x != y) = true := by simp [hxy]
        have hrf : r = decide (x < y) := by
          rw [Hr.out]
          unfold ltL
          rw [cmpL_at _ _ j (take_same Ha.out Hl.out hz.out) (by rw [Ha.out]; exact hlt) (by rw [Hl.out]; exact hlt) (by rw [Hx.out, ← Hy.out]; exact hxy), Hx.out, ← Hy.out]
          by_cases hlt2 : x < y <;> simp [hlt2]
        have HRF := Lib.hid hrf
        clear hxy hrf
        go_wp2_with fail
        go_quiet (fail)
        go_wp2_with fail
        go_quiet (fail)
        go_wp2
        go_ret
        exact ⟨by rw [HRF.out]; rfl, Below.toDrewN (Below.toDrewN (Below.toDrewN (Below.refl _ _) _) _) _⟩
    · obtain rfl : j = n := by omega
      have hrt : r = false := by
        rw [Hr.out]
        have e : atG cs gs = cs := by
          have := take_same (j := j) Ha.out Hl.out hz.out
          rwa [List.take_of_length_le (by rw [Ha.out]; exact Nat.le_refl _), List.take_of_length_le (by rw [Hl.out]; exact Nat.le_refl _)] at this
        rw [e]; exact ltL_irrefl cs
      have HRT := Lib.hid hrt; clear hrt
      go_wp2
      go_ret
      exact ⟨by rw [HRT.out]; rfl, Below.toDrewN (Below.refl _ _) _⟩
end Go.Proofs.Ytgjanbgehbpciaa
