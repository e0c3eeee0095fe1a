/- Walks: the order of stamps of one size. -/
import Derived.Test.YtgjanbgehbpciaaV15
namespace Go.Proofs.Ytgjanbgehbpciaa
open Go.RowKit

/-- the order of ints -/
def cmpI (x y : Int) : Int := if x < y then -1 else if y < x then 1 else 0
/-- the order of slices of ints of one length -/
def cmpL : List Int → List Int → Int
  | [], [] => 0
  | [], _ :: _ => -1
  | _ :: _, [] => 1
  | x :: l, y :: k => if x = y then cmpL l k else if x < y then -1 else 1
theorem cmpL_self : ∀ l : List Int, cmpL l l = 0
  | [] => rfl
  | x :: l => by unfold cmpL; rw [if_pos rfl]; exact cmpL_self l
theorem cmpL_at : ∀ (l k : List Int) (j : Nat), l.take j = k.take j → j < l.length → j < k.length → l.getD j 0 ≠ k.getD j 0 → cmpL l k = if l.getD j 0 < k.getD j 0 then -1 else 1
  | [], _, j, _, h, _, _ => by simp at h
  | _ :: _, [], j, _, _, h, _ => by simp at h
  | x :: l, y :: k, 0, _, _, _, hne => by
    have hxy : x ≠ y := by simpa using hne
    unfold cmpL; rw [if_neg hxy]; simp
  | x :: l, y :: k, j + 1, ht, h1, h2, hne => by
    simp only [List.take_succ_cons, List.cons.injEq] at ht
    have := cmpL_at l k j ht.2 (by simpa using h1) (by simpa using h2) (by simpa using hne)
    unfold cmpL; rw [if_pos ht.1, this]; simp
theorem cmpL_zero : ∀ (l k : List Int), cmpL l k = 0 → l = k
  | [], [], _ => rfl
  | [], _ :: _, h => by cases h
  | _ :: _, [], h => by cases h
  | x :: l, y :: k, h => by
    unfold cmpL at h
    by_cases e : x = y
    · rw [if_pos e] at h; rw [e, cmpL_zero l k h]
    · rw [if_neg e] at h; split at h <;> cases h
/-- which comes first -/
def ltL (l k : List Int) : Bool := decide (cmpL l k < 0)
theorem cmpL_neg : ∀ (l k : List Int), cmpL l k = - cmpL k l
  | [], [] => rfl
  | [], _ :: _ => rfl
  | _ :: _, [] => rfl
  | x :: l, y :: k => by
    unfold cmpL
    by_cases e : x = y
    · rw [if_pos e, if_pos e.symm]; exact cmpL_neg l k
    · have e' : ¬ y = x := fun h => e (Eq.symm h)
      rw [if_neg e, if_neg e']
      by_cases h : x < y
      · have h' : ¬ y < x := by omega
        rw [if_pos h, if_neg h']
      · have h' : y < x := by omega
        rw [if_neg h, if_pos h']; rfl
theorem cmpL_trans : ∀ (l k m : List Int), cmpL l k < 0 → cmpL k m ≤ 0 → cmpL l m < 0
  | [], [], _, h, _ => by simp [cmpL] at h
  | [], _ :: _, [], _, h => by simp [cmpL] at h
  | [], _ :: _, _ :: _, _, _ => by simp [cmpL]
  | _ :: _, [], _, h, _ => by simp [cmpL] at h
  | _ :: _, _ :: _, [], _, h => by simp [cmpL] at h
  | x :: l, y :: k, z :: m, h1, h2 => by
    unfold cmpL at h1 h2 ⊢
    by_cases e1 : x = y
    · rw [if_pos e1] at h1
      subst e1
      by_cases e2 : x = z
      · rw [if_pos e2] at h2 ⊢; exact cmpL_trans l k m h1 h2
      · rw [if_neg e2] at h2 ⊢; split at h2 <;> simp_all
    · rw [if_neg e1] at h1
      have hxy : x < y := by by_cases h : x < y; exact h; rw [if_neg h] at h1; omega
      by_cases e2 : y = z
      · subst e2; rw [if_neg e1, if_pos hxy]; omega
      · rw [if_neg e2] at h2
        have hyz : y < z := by by_cases h : y < z; exact h; rw [if_neg h] at h2; omega
        rw [if_neg (by omega), if_pos (by omega)]; omega
theorem ltL_irrefl (l : List Int) : ltL l l = false := by unfold ltL; rw [cmpL_self]; rfl
theorem ltL_trans (l k m : List Int) (h1 : ltL l k = true) (h2 : ltL k m = true) : ltL l m = true := by
  unfold ltL at *; rw [decide_eq_true_iff] at *; exact cmpL_trans l k m h1 (by omega)
theorem ltL_ntrans (l k m : List Int) (h1 : ltL l k = false) (h2 : ltL k m = false) : ltL l m = false := by
  unfold ltL at *
  rw [decide_eq_false_iff_not] at *
  intro h
  have a1 := cmpL_neg k l
  have a2 : cmpL k l ≤ 0 := by omega
  have a3 := cmpL_neg m k
  rcases Int.lt_or_le (cmpL m k) 0 with b | b
  · have := cmpL_trans m k l b a2
    have := cmpL_neg m l
    omega
  · have e : cmpL m k = 0 := by omega
    have := cmpL_zero m k e
    subst this
    omega
/-- neither comes first: they are equal -/
theorem ltL_eq {l k : List Int} (h1 : ltL l k = false) (h2 : ltL k l = false) : l = k := by
  unfold ltL at *
  rw [decide_eq_false_iff_not] at *
  have := cmpL_neg k l
  exact cmpL_zero l k (by omega)

set_option maxRecDepth 100000 in
theorem isNaN_c (x : Int) (W : World) : Calls Try.prog 128 #[.int .i64 x] W fun e W' => e = .returned (.bool false) ∧ W = W' := by
  have g1 : (x != x) = false := by simp
  go_enter Try.func128, Try.ntmps128
  go_wp2
  go_ret
  exact ⟨rfl, rfl⟩
set_option maxRecDepth 100000 in
theorem cmpInt_c (x y : Int) (W : World) : Calls Try.prog 122 #[.int .i64 x, .int .i64 y] W fun e W' => e = .returned (.int .i64 (cmpI x y)) ∧ W = W' := by
  obtain ⟨r, hr⟩ : ∃ r, r = cmpI x y := ⟨_, rfl⟩
  rw [← hr]
  unfold cmpI at hr
  by_cases h1 : x < y
  · rw [if_pos h1] at hr
    have HR := Lib.hid hr; clear hr
    go_enter Try.func122, Try.ntmps122
    go_wp2_with fail
    refine (isNaN_c x _).mono ?_
    rintro e w' ⟨rfl, rfl⟩
    go_wp2_with fail
    refine (isNaN_c y _).mono ?_
    rintro e w' ⟨rfl, rfl⟩
    go_wp2
    go_ret
    exact ⟨by rw [HR.out]; rfl, rfl⟩
  · rw [if_neg h1] at hr
    by_cases h2 : y < x
    · rw [if_pos h2] at hr
      have HR := Lib.hid hr; clear hr
      go_enter Try.func122, Try.ntmps122
      go_wp2_with fail
      refine (isNaN_c x _).mono ?_
      rintro e w' ⟨rfl, rfl⟩
      go_wp2_with fail
      refine (isNaN_c y _).mono ?_
      rintro e w' ⟨rfl, rfl⟩
      go_wp2
      go_ret
      exact ⟨by rw [HR.out]; rfl, rfl⟩
    · rw [if_neg h2] at hr
      have HR := Lib.hid hr; clear hr
      go_enter Try.func122, Try.ntmps122
      go_wp2_with fail
      refine (isNaN_c x _).mono ?_
      rintro e w' ⟨rfl, rfl⟩
      go_wp2_with fail
      refine (isNaN_c y _).mono ?_
      rintro e w' ⟨rfl, rfl⟩
      go_wp2
      go_ret
      exact ⟨by rw [HR.out]; rfl, rfl⟩

set_option maxHeartbeats 1000000 in
set_option maxRecDepth 100000 in
theorem compare_c (b1 o1 c1 b2 o2 c2 n : Nat) (l k : List Int) (W : World) (hn : n ≤ 1000) (hl : l.length = n) (hk : k.length = n)
    (h1 : ∀ j, j < n → W.cell? ⟨b1, o1 + j, none⟩ = some (.int .i64 (l.getD j 0))) (h2 : ∀ j, j < n → W.cell? ⟨b2, o2 + j, none⟩ = some (.int .i64 (k.getD j 0))) :
    Calls Try.prog 106 #[.slice (some ⟨b1, o1, none⟩) n c1, .slice (some ⟨b2, o2, none⟩) n c2] W fun e W' => e = .returned (.int .i64 (cmpL l k)) ∧ W = W' := by
  have H1 := Lib.hid h1; have H2 := Lib.hid h2; have HL := Lib.hid hl; have HK := Lib.hid hk; clear h1 h2 hl hk
  obtain ⟨r, hr⟩ : ∃ r, r = cmpL l k := ⟨_, rfl⟩
  rw [← hr]
  have HR := Lib.hid hr; clear hr
  go_enter Try.func106, Try.ntmps106
  go_wp2
  go_loop [11] (fun i => ∃ j : Nat, i = .int .i64 j ∧ j ≤ n ∧ l.take j = k.take j) (fun i => n - (intOf i).toNat)
  case atStart => exact ⟨0, rfl, by omega, rfl⟩
  case round =>
    obtain ⟨j, rfl, hj, ht⟩ := hrel
    have HT := Lib.hid ht; clear ht
    by_cases hlt : j < n
    · have a1 := H1.out j hlt
      have a2 := H2.out j hlt
      have hat := cmpL_at l k j HT.out (by rw [HL.out]; exact hlt) (by rw [HK.out]; exact hlt)
      have hx1 : l[j]? = some (l.getD j 0) := by rw [List.getD_eq_getElem?_getD, List.getElem?_eq_getElem (by rw [HL.out]; exact hlt)]; rfl
      have hy1 : k[j]? = some (k.getD j 0) := by rw [List.getD_eq_getElem?_getD, List.getElem?_eq_getElem (by rw [HK.out]; exact hlt)]; rfl
      obtain ⟨x, hx⟩ : ∃ x, x = l.getD j 0 := ⟨_, rfl⟩
      obtain ⟨y, hy⟩ : ∃ y, y = k.getD j 0 := ⟨_, rfl⟩
      rw [← hx] at a1 hat hx1
      rw [← hy] at a2 hat hy1
      have HX1 := Lib.hid hx1; have HY1 := Lib.hid hy1
      clear hx hy hx1 hy1
      have g3 : decide (n ≤ j) = false := decide_eq_false (by omega)
      by_cases hxy : x = y
      · subst hxy
        have hz : cmpI x x = 0 := by simp [cmpI]
        have HZ : ∀ W, Calls Try.prog 122 #[.int .i64 x, .int .i64 x] W fun e W' => e = .returned (.int .i64 0) ∧ W = W' := fun W => by have := cmpInt_c x x W; rwa [hz] at this
        have HZZ := Lib.hid HZ
        clear hz HZ hat
        go_wp2_with fail
        refine (HZZ.out _).mono ?_
        rintro e w' ⟨rfl, rfl⟩
        clear a1 a2
        go_wp2_with fail
        go_round
        case rel => exact ⟨j + 1, by go_num, by omega, by rw [List.take_add_one, List.take_add_one, HT.out, HX1.out, HY1.out]⟩
        case measure => simp [intOf]; omega
      · have hz : cmpI x y = r ∧ (cmpI x y != 0) = true := by
          rw [HR.out, hat hxy]
          unfold cmpI
          by_cases h : x < y
          · rw [if_pos h]; simp [h]
          · rw [if_neg h, if_pos (by omega), if_neg h]; simp
        obtain ⟨hz1, hz2⟩ := hz
        rw [hz1] at hz2
        have HZ : ∀ W, Calls Try.prog 122 #[.int .i64 x, .int .i64 y] W fun e W' => e = .returned (.int .i64 r) ∧ W = W' := fun W => by have := cmpInt_c x y W; rwa [hz1] at this
        have HZZ := Lib.hid HZ
        clear hz1 HZ hat hxy
        go_wp2_with fail
        refine (HZZ.out _).mono ?_
        rintro e w' ⟨rfl, rfl⟩
        clear a1 a2
        go_wp2
        go_ret
        exact ⟨rfl, rfl⟩
    · obtain rfl : j = n := by omega
      have hlk : l = k := by
        have := HT.out
        rwa [List.take_of_length_le (by rw [HL.out]; exact Nat.le_refl _), List.take_of_length_le (by rw [HK.out]; exact Nat.le_refl _)] at this
      have hr0 : r = 0 := by rw [HR.out, hlk, cmpL_self]
      have HR0 := Lib.hid hr0; clear hr0 hlk
      go_wp2
      go_ret
      exact ⟨by rw [HR0.out]; rfl, rfl⟩

/-- a stamp as a value -/
def stV (w h : Int) (b o n c : Nat) : Value := .agg #[.int .i64 w, .int .i64 h, .slice (some ⟨b, o, none⟩) n c]
set_option maxHeartbeats 1000000 in
set_option maxRecDepth 100000 in
theorem inOrder_c (w1 h1 w2 h2 : Int) (b1 o1 c1 b2 o2 c2 n : Nat) (l k : List Int) (W : World) (hn : n ≤ 1000) (hl : l.length = n) (hk : k.length = n) (hb1 : b1 < W.heap.size) (hb2 : b2 < W.heap.size)
    (hc1 : ∀ j, j < n → W.cell? ⟨b1, o1 + j, none⟩ = some (.int .i64 (l.getD j 0))) (hc2 : ∀ j, j < n → W.cell? ⟨b2, o2 + j, none⟩ = some (.int .i64 (k.getD j 0))) :
    Calls Try.prog 91 #[.agg #[.int .i64 w1, .int .i64 h1, .slice (some ⟨b1, o1, none⟩) n c1], .agg #[.int .i64 w2, .int .i64 h2, .slice (some ⟨b2, o2, none⟩) n c2]] W fun e W' => e = .returned (.int .i64 (cmpL l k)) ∧ ∃ o1 o2, W' = (W.alloc o1).alloc o2 := by
  have hcp := fun X (hX : Ext W X) => compare_c b1 o1 c1 b2 o2 c2 n l k X hn hl hk (fun j hj => keepAt hX hb1 (hc1 j hj)) (fun j hj => keepAt hX hb2 (hc2 j hj))
  obtain ⟨r, hr⟩ : ∃ r, r = cmpL l k := ⟨_, rfl⟩
  simp only [← hr] at hcp ⊢
  have HCP := Lib.hid hcp; clear hcp hr hc1 hc2 hl hk
  go_enter Try.func91, Try.ntmps91
  go_wp2_with fail
  refine (HCP.out _ (al2 W _ _)).mono ?_
  rintro e w' ⟨rfl, rfl⟩
  go_wp2
  go_ret
  exact ⟨rfl, _, _, rfl⟩
set_option maxHeartbeats 1000000 in
set_option maxRecDepth 100000 in
theorem isSame_c (w1 h1 w2 h2 : Int) (b1 o1 c1 b2 o2 c2 n : Nat) (l k : List Int) (W : World) (hn : n ≤ 1000) (hl : l.length = n) (hk : k.length = n) (hb1 : b1 < W.heap.size) (hb2 : b2 < W.heap.size)
    (hc1 : ∀ j, j < n → W.cell? ⟨b1, o1 + j, none⟩ = some (.int .i64 (l.getD j 0))) (hc2 : ∀ j, j < n → W.cell? ⟨b2, o2 + j, none⟩ = some (.int .i64 (k.getD j 0))) :
    Calls Try.prog 93 #[.agg #[.int .i64 w1, .int .i64 h1, .slice (some ⟨b1, o1, none⟩) n c1], .agg #[.int .i64 w2, .int .i64 h2, .slice (some ⟨b2, o2, none⟩) n c2]] W fun e W' => e = .returned (.bool (decide (l = k))) ∧ Ext W W' := by
  have hcp := fun X (hX : Ext W X) => inOrder_c w1 h1 w2 h2 b1 o1 c1 b2 o2 c2 n l k X hn hl hk (Nat.lt_of_lt_of_le hb1 hX.size) (Nat.lt_of_lt_of_le hb2 hX.size) (fun j hj => keepAt hX hb1 (hc1 j hj)) (fun j hj => keepAt hX hb2 (hc2 j hj))
  obtain ⟨r, hr⟩ : ∃ r, r = cmpL l k := ⟨_, rfl⟩
  have hd : decide (l = k) = (r == 0) := by
    rw [hr]
    by_cases e : l = k
    · rw [decide_eq_true e, e, cmpL_self]; rfl
    · rw [decide_eq_false e]
      have : cmpL l k ≠ 0 := fun h => e (cmpL_zero l k h)
      simp [this]
  rw [hd]
  simp only [← hr] at hcp ⊢
  obtain ⟨s, hs⟩ : ∃ s, s = (r == 0) := ⟨_, rfl⟩
  rw [← hs]
  have hs' := hs.symm
  have HCP := Lib.hid hcp; clear hcp hr hc1 hc2 hl hk hd hs
  go_enter Try.func93, Try.ntmps93
  go_wp2_with fail
  refine (HCP.out _ (al2 W _ _)).mono ?_
  rintro e w' ⟨rfl, x1, x2, rfl⟩
  go_wp2
  go_ret
  exact ⟨rfl, nx (al2 W _ _) (al2 _ _ _)⟩
end Go.Proofs.Ytgjanbgehbpciaa
