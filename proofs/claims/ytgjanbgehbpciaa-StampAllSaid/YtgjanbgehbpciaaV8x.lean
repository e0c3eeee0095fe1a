/- Walks: stamps that are valid. -/
import Derived.Test.YtgjanbgehbpciaaVm
import Derived.Deep.DeepCutAuto
namespace Go.Proofs.Ytgjanbgehbpciaa
open Go.RowKit

/-- the ints l lie at the slice value v in w -/
def Il (w : World) (v : Value) (l : List Int) : Prop :=
  ∃ A c, v = .slice A l.length c ∧ l.length ≤ c ∧ c ≤ 9223372036854775807 ∧
    (0 < l.length → ∃ b off, A = some ⟨b, off, none⟩ ∧ b < w.heap.size ∧ ∀ j, j < l.length → w.cell? ⟨b, off + j, none⟩ = some (.int .i64 (l.getD j 0)))

theorem Il.below {w w' : World} {v : Value} {l : List Int} (h : Il w v l) (hb : Below w.heap.size w w') : Il w' v l := by
  obtain ⟨A, c, rfl, h1, h2, h4⟩ := h
  refine ⟨A, c, rfl, h1, h2, fun hp => ?_⟩
  obtain ⟨b, off, rfl, hb', hc⟩ := h4 hp
  exact ⟨b, off, rfl, Nat.lt_of_lt_of_le hb' hb.size, fun j hj => (hb.cell (p := ⟨b, off + j, none⟩) hb').trans (hc j hj)⟩
theorem Il.nil_ (w : World) : Il w (.slice none 0 0) [] := ⟨none, 0, rfl, Nat.le_refl _, by omega, fun h => absurd h (by simp)⟩
theorem Il.len {w : World} {A : Option Addr} {n c : Nat} {l : List Int} (h : Il w (.slice A n c) l) : n = l.length := by
  obtain ⟨A', c', e, _⟩ := h; injection e

/-- a colour -/
def isCol (c : Int) : Bool := decide (0 ≤ c) && decide (c < 8)
/-- is it a stamp? -/
def vst (w h : Int) (l : List Int) : Bool := okSize w h && decide ((l.length : Int) = w * h) && l.all isCol

theorem area_in {w h : Int} (hs : okSize w h = true) : 1 ≤ w * h ∧ w * h ≤ 64 := by
  rw [okSize_iff] at hs
  rcases (by omega : w = 1 ∨ w = 2 ∨ w = 3 ∨ w = 4 ∨ w = 5 ∨ w = 6 ∨ w = 7 ∨ w = 8) with rfl | rfl | rfl | rfl | rfl | rfl | rfl | rfl <;> omega

set_option maxRecDepth 100000 in
theorem sizeOf_any (w h : Int) (s : Value) (A : Option Addr) (n c : Nat) (W : World) (hsv : s = .slice A n c) :
    Calls Try.prog 50 #[.agg #[.int .i64 w, .int .i64 h, .slice A n c]] W fun e W' => e = .returned (.agg #[.int .i64 w, .int .i64 h]) ∧ Below W.heap.size W W' := by
  clear hsv
  go_enter Try.func50, Try.ntmps50
  go_wp2
  exact bodyPost_ret (v := .agg #[.int .i64 w, .int .i64 h]) (by simp [results, Try.results50, go_sem]) rfl ⟨rfl, al2 W _ _⟩

theorem all_no {l : List Int} {j : Nat} (hj : j < l.length) (h : isCol (l.getD j 0) = false) : l.all isCol = false := by
  rw [List.all_eq_false]
  refine ⟨l[j], List.getElem_mem _, ?_⟩
  rw [List.getD_eq_getElem?_getD, List.getElem?_eq_getElem hj] at h
  simpa using h
theorem all_yes {l : List Int} (h : ∀ j, j < l.length → isCol (l.getD j 0) = true) : l.all isCol = true := by
  rw [List.all_eq_true]
  intro x hx
  obtain ⟨j, hj, rfl⟩ := List.getElem_of_mem hx
  have := h j hj
  rw [List.getD_eq_getElem?_getD, List.getElem?_eq_getElem hj] at this
  simpa using this

set_option maxRecDepth 100000 in
theorem validS_f (w h : Int) (A : Option Addr) (n c : Nat) (W : World) (hs : okSize w h = false) :
    Calls Try.prog 16 #[.agg #[.int .i64 w, .int .i64 h, .slice A n c]] W fun e W' => e = .returned (.bool false) ∧ Below W.heap.size W W' := by
  have Hs := Lib.hid hs; clear hs
  go_enter Try.func16, Try.ntmps16
  go_wp2_with fail
  refine (sizeOf_any w h _ A n c _ rfl).mono ?_
  rintro e w0 ⟨rfl, hb0⟩
  obtain ⟨c0, f0⟩ := bcell hb0
  have z0 := hb0.size
  simp only [World.size_alloc] at z0 c0 f0
  have H0 := Lib.hid hb0; clear hb0
  go_wp2_with fail
  refine (valid_is Hs.out _).mono ?_
  rintro e w1 ⟨rfl, hb⟩
  have K1 := nx H0.out hb; clear hb H0 c0 f0 z0
  obtain ⟨c1, f1⟩ := bcell K1
  have z1 := K1.size
  simp only [World.size_alloc] at z1 c1 f1
  have K := Lib.hid (nx (al1 W _) K1); clear K1
  go_wp2
  go_ret
  exact ⟨rfl, K.out⟩

set_option maxRecDepth 100000 in
theorem validS_len (w h : Int) (A : Option Addr) (n c : Nat) (W : World) (hs : okSize w h = true) (P : Int) (hP : w * h = P) (hP1 : 1 ≤ P) (hP2 : P ≤ 64) (hn : (n : Int) ≠ P) (hm : n ≤ 9223372036854775807) :
    Calls Try.prog 16 #[.agg #[.int .i64 w, .int .i64 h, .slice A n c]] W fun e W' => e = .returned (.bool false) ∧ Below W.heap.size W W' := by
  have Hs := Lib.hid hs; clear hs
  have g1 : ((n : Int) != P) = true := by simp; exact hn
  clear hn
  go_enter Try.func16, Try.ntmps16
  go_wp2_with fail
  refine (sizeOf_any w h _ A n c _ rfl).mono ?_
  rintro e w0 ⟨rfl, hb0⟩
  obtain ⟨c0, f0⟩ := bcell hb0
  have z0 := hb0.size
  simp only [World.size_alloc] at z0 c0 f0
  have H0 := Lib.hid hb0; clear hb0
  go_wp2_with fail
  refine (valid_is Hs.out _).mono ?_
  rintro e w1 ⟨rfl, hb⟩
  have K1 := nx H0.out hb; clear hb H0 c0 f0 z0
  obtain ⟨c1, f1⟩ := bcell K1
  have z1 := K1.size
  simp only [World.size_alloc] at z1 c1 f1
  have K := Lib.hid (nx (al1 W _) K1); clear K1
  go_wp2
  go_ret
  exact ⟨rfl, K.out⟩

set_option maxHeartbeats 400000 in
set_option maxRecDepth 100000 in
theorem validS_loop (w h : Int) (b off n c : Nat) (l : List Int) (W : World) (hs : okSize w h = true) (hP : w * h = (n : Int)) (hP1 : 1 ≤ n) (hP2 : n ≤ 64) (hl : l.length = n) (hbl : b < W.heap.size)
    (hc : ∀ j, j < n → W.cell? ⟨b, off + j, none⟩ = some (.int .i64 (l.getD j 0))) :
    Calls Try.prog 16 #[.agg #[.int .i64 w, .int .i64 h, .slice (some ⟨b, off, none⟩) n c]] W fun e W' => e = .returned (.bool (l.all isCol)) ∧ Below W.heap.size W W' := by
  have Hs := Lib.hid hs; clear hs
  have HC := Lib.hid hc; clear hc
  have Hl := Lib.hid hl; clear hl
  have g1 : ((n : Int) != (n : Int)) = false := by simp
  obtain ⟨r, hr0⟩ : ∃ r, r = l.all isCol := ⟨_, rfl⟩
  rw [← hr0]
  have Hr := Lib.hid hr0; clear hr0
  obtain ⟨A, hA⟩ : ∃ A, A = some (⟨b, off, none⟩ : Addr) := ⟨_, rfl⟩
  rw [← hA]
  have HA := Lib.hid hA; clear hA
  go_enter Try.func16, Try.ntmps16
  go_wp2_with fail
  refine (sizeOf_any w h _ A n c _ rfl).mono ?_
  rintro e w0 ⟨rfl, hb0⟩
  obtain ⟨c0, f0⟩ := bcell hb0
  have z0 := hb0.size
  simp only [World.size_alloc] at z0 c0 f0
  have H0 := Lib.hid hb0; clear hb0
  go_wp2_with fail
  refine (valid_is Hs.out _).mono ?_
  rintro e w1 ⟨rfl, hb⟩
  have K1 := nx H0.out hb; clear hb H0 c0 f0 z0
  obtain ⟨c1, f1⟩ := bcell K1
  have z1 := K1.size
  simp only [World.size_alloc] at z1 c1 f1
  have K := Lib.hid (nx (al1 W _) K1); clear K1
  have HC1 : Hid (∀ j, j < n → w1.cell? ⟨b, off + j, none⟩ = some (.int .i64 (l.getD j 0))) := Lib.hid (fun j hj => (K.out.cell (p := ⟨b, off + j, none⟩) hbl).trans (HC.out j hj))
  clear HC
  have eA := HA.out
  subst eA
  clear HA
  go_wp2
  clear c1 f1 z1
  go_loop [23] (fun i => ∃ k : Nat, i = .int .i64 k ∧ k ≤ n ∧ ∀ j, j < k → isCol (l.getD j 0) = true) (fun i => n - (intOf i).toNat)
  case atStart => exact ⟨0, rfl, Nat.zero_le _, fun j hj => by omega⟩
  case round =>
    obtain ⟨k, rfl, hk, hz⟩ := hrel
    have HZ := Lib.hid hz; clear hz
    by_cases hlt : k < n
    · have h1 := HC1.out k hlt
      obtain ⟨x, hx⟩ : ∃ x, x = l.getD k 0 := ⟨_, rfl⟩
      rw [← hx] at h1
      have Hx := Lib.hid hx; clear hx
      by_cases x0 : x < 0
      · have hr : l.all isCol = false := all_no (j := k) (by rw [Hl.out]; exact hlt) (by rw [← Hx.out]; unfold isCol; simp; omega)
        rw [← Hr.out] at hr
        have HR := Lib.hid hr; clear hr
        go_wp2
        go_ret
        exact ⟨by rw [HR.out]; rfl, K.out⟩
      · by_cases x8 : 8 ≤ x
        · have hr : l.all isCol = false := all_no (j := k) (by rw [Hl.out]; exact hlt) (by rw [← Hx.out]; unfold isCol; simp; omega)
          rw [← Hr.out] at hr
          have HR := Lib.hid hr; clear hr
          go_wp2
          go_ret
          exact ⟨by rw [HR.out]; rfl, K.out⟩
        · have hcx : isCol x = true := by unfold isCol; simp; omega
          have Hcx := Lib.hid hcx; clear hcx
          have x0' : 0 ≤ x := by omega
          have x8' : x < 8 := by omega
          have x7' : decide (7 < x) = false := by simp; omega
          have x0'' : decide (x < 0) = false := by simp; omega
          have x8'' : decide (8 ≤ x) = false := by simp; omega
          clear x0 x8
          go_wp2
          go_round
          case rel =>
            refine ⟨k + 1, by go_num, by omega, fun j hj => ?_⟩
            by_cases e : j = k
            · rw [e, ← Hx.out]; exact Hcx.out
            · exact HZ.out j (by omega)
          case measure => simp [intOf]; omega
    · obtain rfl : k = n := by omega
      have hr : l.all isCol = true := all_yes (fun j hj => HZ.out j (by rw [← Hl.out]; exact hj))
      rw [← Hr.out] at hr
      have HR := Lib.hid hr; clear hr
      go_wp2
      go_ret
      exact ⟨by rw [HR.out]; rfl, K.out⟩

/-- is it a stamp? -/
theorem validS_any (w h : Int) (A : Option Addr) (n c : Nat) (l : List Int) (W : World) (hv : Il W (.slice A n c) l) :
    Calls Try.prog 16 #[.agg #[.int .i64 w, .int .i64 h, .slice A n c]] W fun e W' => e = .returned (.bool (vst w h l)) ∧ Below W.heap.size W W' := by
  have hn := hv.len
  obtain ⟨A', c', he, h1, h2, h4⟩ := hv
  injection he with e1 e2 e3
  subst e1 e3
  unfold vst
  cases hs : okSize w h
  · simp only [Bool.false_and]
    exact validS_f w h A n c W hs
  · have ha := area_in hs
    by_cases hl : (n : Int) = w * h
    · rw [← hn, decide_eq_true hl, Bool.true_and, Bool.true_and]
      obtain ⟨b, off, rfl, hbl, hc⟩ := h4 (by omega)
      exact validS_loop w h b off n c l W hs hl.symm (by omega) (by omega) hn.symm hbl (fun j hj => hc j (by omega))
    · rw [← hn, decide_eq_false hl, Bool.and_false, Bool.false_and]
      exact validS_len w h A n c W hs _ rfl ha.1 ha.2 hl (by omega)

set_option maxRecDepth 100000 in
theorem validR_f (w h : Int) (A : Option Addr) (n c : Nat) (W : World) (hs : okSize w h = false) :
    Calls Try.prog 17 #[.agg #[.int .i64 w, .int .i64 h, .slice A n c]] W fun e W' => e = .returned (.bool false) ∧ Below W.heap.size W W' := by
  have Hs := Lib.hid hs; clear hs
  go_enter Try.func17, Try.ntmps17
  go_wp2_with fail
  refine (sizeR_is Hs.out _).mono ?_
  rintro e w1 ⟨rfl, hb⟩
  obtain ⟨c1, f1⟩ := bcell hb
  have z1 := hb.size
  simp only [World.size_alloc] at z1 c1 f1
  have K := Lib.hid (nx (al1 W _) hb); clear hb
  go_wp2
  go_ret
  exact ⟨rfl, K.out⟩

set_option maxRecDepth 100000 in
theorem validR_len (w h : Int) (A : Option Addr) (n c : Nat) (W : World) (hs : okSize w h = true) (P : Int) (hP : w * h = P) (hP1 : 1 ≤ P) (hP2 : P ≤ 64) (hn : (n : Int) ≠ P) (hm : n ≤ 9223372036854775807) :
    Calls Try.prog 17 #[.agg #[.int .i64 w, .int .i64 h, .slice A n c]] W fun e W' => e = .returned (.bool false) ∧ Below W.heap.size W W' := by
  have Hs := Lib.hid hs; clear hs
  have g1 : ((n : Int) != P) = true := by simp; exact hn
  clear hn
  go_enter Try.func17, Try.ntmps17
  go_wp2_with fail
  refine (sizeR_is Hs.out _).mono ?_
  rintro e w1 ⟨rfl, hb⟩
  obtain ⟨c1, f1⟩ := bcell hb
  have z1 := hb.size
  simp only [World.size_alloc] at z1 c1 f1
  have K := Lib.hid (nx (al1 W _) hb); clear hb
  go_wp2
  go_ret
  exact ⟨rfl, K.out⟩

set_option maxHeartbeats 400000 in
set_option maxRecDepth 100000 in
theorem validR_loop (w h : Int) (b off n c : Nat) (l : List Int) (W : World) (hs : okSize w h = true) (hP : w * h = (n : Int)) (hP1 : 1 ≤ n) (hP2 : n ≤ 64) (hl : l.length = n) (hbl : b < W.heap.size)
    (hc : ∀ j, j < n → W.cell? ⟨b, off + j, none⟩ = some (.int .i64 (l.getD j 0))) :
    Calls Try.prog 17 #[.agg #[.int .i64 w, .int .i64 h, .slice (some ⟨b, off, none⟩) n c]] W fun e W' => e = .returned (.bool (l.all isCol)) ∧ Below W.heap.size W W' := by
  have Hs := Lib.hid hs; clear hs
  have HC := Lib.hid hc; clear hc
  have Hl := Lib.hid hl; clear hl
  have g1 : ((n : Int) != (n : Int)) = false := by simp
  obtain ⟨r, hr0⟩ : ∃ r, r = l.all isCol := ⟨_, rfl⟩
  rw [← hr0]
  have Hr := Lib.hid hr0; clear hr0
  obtain ⟨A, hA⟩ : ∃ A, A = some (⟨b, off, none⟩ : Addr) := ⟨_, rfl⟩
  rw [← hA]
  have HA := Lib.hid hA; clear hA
  go_enter Try.func17, Try.ntmps17
  go_wp2_with fail
  refine (sizeR_is Hs.out _).mono ?_
  rintro e w1 ⟨rfl, hb⟩
  obtain ⟨c1, f1⟩ := bcell hb
  have z1 := hb.size
  simp only [World.size_alloc] at z1 c1 f1
  have K := Lib.hid (nx (al1 W _) hb); clear hb
  have HC1 : Hid (∀ j, j < n → w1.cell? ⟨b, off + j, none⟩ = some (.int .i64 (l.getD j 0))) := Lib.hid (fun j hj => (K.out.cell (p := ⟨b, off + j, none⟩) hbl).trans (HC.out j hj))
  clear HC
  have eA := HA.out
  subst eA
  clear HA
  go_wp2
  clear c1 f1 z1
  go_loop [25] (fun i => ∃ k : Nat, i = .int .i64 k ∧ k ≤ n ∧ ∀ j, j < k → isCol (l.getD j 0) = true) (fun i => n - (intOf i).toNat)
  case atStart => exact ⟨0, rfl, Nat.zero_le _, fun j hj => by omega⟩
  case round =>
    obtain ⟨k, rfl, hk, hz⟩ := hrel
    have HZ := Lib.hid hz; clear hz
    by_cases hlt : k < n
    · have h1 := HC1.out k hlt
      obtain ⟨x, hx⟩ : ∃ x, x = l.getD k 0 := ⟨_, rfl⟩
      rw [← hx] at h1
      have Hx := Lib.hid hx; clear hx
      by_cases x0 : x < 0
      · have hr : l.all isCol = false := all_no (j := k) (by rw [Hl.out]; exact hlt) (by rw [← Hx.out]; unfold isCol; simp; omega)
        rw [← Hr.out] at hr
        have HR := Lib.hid hr; clear hr
        go_wp2
        go_ret
        exact ⟨by rw [HR.out]; rfl, K.out⟩
      · by_cases x8 : 8 ≤ x
        · have hr : l.all isCol = false := all_no (j := k) (by rw [Hl.out]; exact hlt) (by rw [← Hx.out]; unfold isCol; simp; omega)
          rw [← Hr.out] at hr
          have HR := Lib.hid hr; clear hr
          go_wp2
          go_ret
          exact ⟨by rw [HR.out]; rfl, K.out⟩
        · have hcx : isCol x = true := by unfold isCol; simp; omega
          have Hcx := Lib.hid hcx; clear hcx
          have x0' : 0 ≤ x := by omega
          have x8' : x < 8 := by omega
          have x7' : decide (7 < x) = false := by simp; omega
          have x0'' : decide (x < 0) = false := by simp; omega
          have x8'' : decide (8 ≤ x) = false := by simp; omega
          clear x0 x8
          go_wp2
          go_round
          case rel =>
            refine ⟨k + 1, by go_num, by omega, fun j hj => ?_⟩
            by_cases e : j = k
            · rw [e, ← Hx.out]; exact Hcx.out
            · exact HZ.out j (by omega)
          case measure => simp [intOf]; omega
    · obtain rfl : k = n := by omega
      have hr : l.all isCol = true := all_yes (fun j hj => HZ.out j (by rw [← Hl.out]; exact hj))
      rw [← Hr.out] at hr
      have HR := Lib.hid hr; clear hr
      go_wp2
      go_ret
      exact ⟨by rw [HR.out]; rfl, K.out⟩

/-- is it a stamp? -/
theorem validR_any (w h : Int) (A : Option Addr) (n c : Nat) (l : List Int) (W : World) (hv : Il W (.slice A n c) l) :
    Calls Try.prog 17 #[.agg #[.int .i64 w, .int .i64 h, .slice A n c]] W fun e W' => e = .returned (.bool (vst w h l)) ∧ Below W.heap.size W W' := by
  have hn := hv.len
  obtain ⟨A', c', he, h1, h2, h4⟩ := hv
  injection he with e1 e2 e3
  subst e1 e3
  unfold vst
  cases hs : okSize w h
  · simp only [Bool.false_and]
    exact validR_f w h A n c W hs
  · have ha := area_in hs
    by_cases hl : (n : Int) = w * h
    · rw [← hn, decide_eq_true hl, Bool.true_and, Bool.true_and]
      obtain ⟨b, off, rfl, hbl, hc⟩ := h4 (by omega)
      exact validR_loop w h b off n c l W hs hl.symm (by omega) (by omega) hn.symm hbl (fun j hj => hc j (by omega))
    · rw [← hn, decide_eq_false hl, Bool.and_false, Bool.false_and]
      exact validR_len w h A n c W hs _ rfl ha.1 ha.2 hl (by omega)

end Go.Proofs.Ytgjanbgehbpciaa
