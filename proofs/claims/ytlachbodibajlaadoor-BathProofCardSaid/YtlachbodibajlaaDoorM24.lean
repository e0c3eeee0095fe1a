/- Walks: slices.Compare of a slice that is not behind the other. · Orders as mathematics: an order shows that there is one; an order beside the first cheapest. · Walks: the law BathFirst. · Courses: the cheapest bath, the prices out of a table. -/
import Derived.Test.YtlachbodibajlaaDoorM20
import Derived.Test.YtlachbodibajlaaDoorM22
import Derived.Test.YtlachbodibajlaaDoorM23
import Derived.Test.YtlachbodibajlaaDoorM21
import Derived.Test.YtlachbodibajlaaDoorM8
namespace Go.Proofs.YtlachbodibajlaaDoor
open Go.RowKit Go.Shelf

set_option maxRecDepth 100000 in
theorem isNaN_any (p : Int) (W : World) : Calls Tryd.prog 107 #[.int .i64 p] W fun e W' => e = .returned (.bool false) ∧ W' = W := by
  have hb : (p != p) = false := by simp
  go_enter Tryd.func107, Tryd.ntmps107
  go_wp2
  go_ret
  exact ⟨rfl, rfl⟩
set_option maxRecDepth 100000 in
theorem cmpI_any (p q : Int) (W : World) (h : p ≤ q) : Calls Tryd.prog 79 #[.int .i64 p, .int .i64 q] W fun e W' => e = .returned (.int .i64 (if p < q then -1 else 0)) ∧ W' = W := by
  by_cases hlt : p < q
  · rw [if_pos hlt]
    go_enter Tryd.func79, Tryd.ntmps79
    go_wp2_with fail
    refine (isNaN_any p _).mono ?_
    rintro e w1 ⟨rfl, rfl⟩
    go_wp2_with fail
    refine (isNaN_any q _).mono ?_
    rintro e w2 ⟨rfl, rfl⟩
    go_wp2
    go_ret
    exact ⟨rfl, rfl⟩
  · rw [if_neg hlt]
    have hgt : ¬ q < p := by omega
    go_enter Tryd.func79, Tryd.ntmps79
    go_wp2_with fail
    refine (isNaN_any p _).mono ?_
    rintro e w1 ⟨rfl, rfl⟩
    go_wp2_with fail
    refine (isNaN_any q _).mono ?_
    rintro e w2 ⟨rfl, rfl⟩
    go_wp2
    go_ret
    exact ⟨rfl, rfl⟩
set_option maxHeartbeats 4000000 in
set_option maxRecDepth 100000 in
theorem compare_any (n : Nat) (x z : Nat → Int) (U V : Value) (W : World) (hU : Il W U n x) (hV : Il W V n z) (h : (∀ i, i < n → x i = z i) ∨ ∃ k, k < n ∧ (∀ i, i < k → x i = z i) ∧ x k < z k) :
    Calls Tryd.prog 35 #[U, V] W fun e W' => ∃ r : Int, e = .returned (.int .i64 r) ∧ r ≤ 0 ∧ W' = W := by
  have HU := Lib.hid hU; have HV := Lib.hid hV; have HH := Lib.hid h
  obtain ⟨A1, c1, rfl, hc1, hd1, -⟩ := id hU
  obtain ⟨A2, c2, rfl, -⟩ := id hV
  clear hU hV h
  go_enter Tryd.func35, Tryd.ntmps35
  go_wp2_with fail
  go_loopw [11] (fun i wr => ∃ j : Nat, i = .int .i64 j ∧ j ≤ n ∧ Hid (∀ t, t < j → x t = z t) ∧ wr = W) (fun i _ => n - (intOf i).toNat)
  case atStart => exact ⟨0, rfl, Nat.zero_le _, Lib.hid (fun t ht => by omega), rfl⟩
  case round =>
    obtain ⟨j, rfl, hj, heq, rfl⟩ := hrel
    by_cases hlt : j < n
    · have hle : x j ≤ z j := by
        rcases HH.out with h | ⟨k, h1, h2, h3⟩
        · rw [h j hlt]; exact Int.le_refl _
        · rcases Nat.lt_trichotomy j k with h | rfl | h
          · rw [h2 j h]; exact Int.le_refl _
          · omega
          · have := heq.out k h; omega
      obtain ⟨b1, o1, rfl, z1, q1⟩ := Vl.at HU.out (Ext.refl _) hlt
      obtain ⟨b2, o2, rfl, z2, q2⟩ := Vl.at HV.out (Ext.refl _) hlt
      try dsimp only at q1
      try dsimp only at q2
      obtain ⟨p, hp⟩ : ∃ p, p = x j := ⟨_, rfl⟩
      obtain ⟨q, hq⟩ : ∃ q, q = z j := ⟨_, rfl⟩
      rw [← hp] at q1 hle
      rw [← hq] at q2 hle
      have HPQ := Lib.hid (And.intro hp hq)
      have HLE := Lib.hid hle
      clear hp hq hle
      have hge : ¬ ((n : Int) ≤ (j : Int)) := by omega
      go_wp2_with fail
      have HCM := Lib.hid fun X => cmpI_any p q X HLE.out
      by_cases hpq : p < q
      · rw [if_pos hpq] at HCM
        refine (HCM.out _).mono ?_
        rintro e w1 ⟨rfl, rfl⟩
        go_wp2
        go_ret
        exact ⟨-1, rfl, by decide, rfl⟩
      · rw [if_neg hpq] at HCM
        refine (HCM.out _).mono ?_
        rintro e w1 ⟨rfl, rfl⟩
        have hst : ∀ t, t < j + 1 → x t = z t := fun t ht => by
          by_cases e : t = j
          · subst e
            have h1 := HPQ.out.1; have h2 := HPQ.out.2; have h3 := HLE.out; omega
          · exact heq.out t (by omega)
        have HST := Lib.hid hst
        clear hst hpq
        go_wp2
        go_roundw
        case rel => exact ⟨j + 1, by go_num, by omega, HST, trivial⟩
        case measure => simp [intOf] <;> omega
    · obtain rfl : j = n := by omega
      have hx9 : ¬ (j : Int) < (j : Int) := by omega
      go_wp2
      go_ret
      exact ⟨0, rfl, by decide, rfl⟩
end Go.Proofs.YtlachbodibajlaaDoor
namespace Go.Proofs.YtlachbodibajlaaDoor
open Go.RowKit

theorem grow_ge (c : Crs) (t x : Nat) : Sb t (c.grow t x) := fun j hj => by
  unfold Crs.grow
  split
  · rw [bit_or, hj]; rfl
  · exact hj
theorem grows_ge (c : Crs) : ∀ (L : List Nat) (t : Nat), Sb t (L.foldl c.grow t)
  | [], _ => fun _ h => h
  | x :: L, t => fun j hj => by rw [List.foldl_cons]; exact grows_ge c L _ j (grow_ge c t x j hj)
theorem grows_in {c : Crs} {s x : Nat} (hc : c.can s x = true) : ∀ (L : List Nat) (t : Nat), x ∈ L → Sb s t → (L.foldl c.grow t).testBit x = true
  | [], _, h, _ => by simp at h
  | y :: L, t, h, hs => by
    rw [List.foldl_cons]
    rcases List.mem_cons.1 h with rfl | h
    · refine grows_ge c L _ x ?_
      unfold Crs.grow
      cases hb : t.testBit x
      · rw [if_pos (can_mono hs hc hb)]
        exact bit_self t x
      · split
        · exact bit_self t x
        · exact hb
    · exact grows_in hc L _ h fun j hj => grow_ge c t y j (hs j hj)
/-- an order shows that there is one -/
theorem fol_rnds {c : Crs} : ∀ (o : List Nat) (s k : Nat), c.fol s o = true → Sb s (c.rnds k) → Sb (fin s o) (c.rnds (k + o.length))
  | [], s, k, _, h => h
  | x :: o, s, k, hf, h => by
    unfold Crs.fol at hf
    rw [Bool.and_eq_true, Bool.and_eq_true] at hf
    obtain ⟨⟨hx, hc⟩, hf⟩ := hf
    have h1 : Sb (s ||| 2 ^ x) (c.rnds (k + 1)) := fun j hj => by
      rw [bit_or, Bool.or_eq_true] at hj
      rcases hj with hj | hj
      · exact grows_ge c _ _ j (h j hj)
      · obtain rfl := of_decide_eq_true hj
        exact grows_in hc _ _ (List.mem_range.2 (of_decide_eq_true hx)) h
    have h2 := fol_rnds o (s ||| 2 ^ x) (k + 1) hf h1
    rw [List.length_cons, show k + (o.length + 1) = k + 1 + o.length by omega]
    exact h2
theorem has_of {c : Crs} {o : List Nat} (h : c.fol 0 o = true) (hl : o.length = c.n) (hr : c.rnds c.n < 2 ^ c.n) : c.has = true := by
  have h1 := fol_rnds o 0 0 h (fun j hj => by rw [Nat.zero_testBit] at hj; cases hj)
  rw [hl, Nat.zero_add, fol_all h hl] at h1
  exact decide_eq_true (all_only hr fun j hj => h1 j (by rw [all_bit, decide_eq_true hj]))
theorem okO_iff {c : Crs} {k : Nat} {x : Nat → Int} : c.okO k x = true ↔ k = c.n ∧ (∀ i, i < k → 0 ≤ x i ∧ x i ≤ (c.n : Int) - 1) ∧ c.fol 0 (ordL k x) = true := by
  unfold Crs.okO
  rw [Bool.and_eq_true, Bool.and_eq_true, decide_eq_true_iff, btw_iff, and_assoc]
/-- an order, and the first cheapest one beside it -/
theorem okO_best {c : Crs} (hn : 1 ≤ c.n) (he : ∀ i, i < c.n → c.en i = 0) (hr : c.rnds c.n < 2 ^ c.n) {k : Nat} {x : Nat → Int} (h : c.okO k x = true) :
    k = c.n ∧ c.has = true ∧ c.cst 0 0 c.best ≤ c.cst 0 0 (ordL k x) ∧ (c.cst 0 0 c.best = c.cst 0 0 (ordL k x) →
      (∀ i, i < c.n → ((c.best.getD i 0 : Nat) : Int) = x i) ∨ ∃ t, t < c.n ∧ (∀ i, i < t → ((c.best.getD i 0 : Nat) : Int) = x i) ∧ ((c.best.getD t 0 : Nat) : Int) < x t) := by
  obtain ⟨h1, h2, h3⟩ := okO_iff.1 h
  have hl := ordL_len k x
  have hh := has_of h3 (by omega) hr
  obtain ⟨b1, b2, b3⟩ := best_ok hh hn he
  have hlow := best_low hn he (pz_snd c) (by omega) h3
  refine ⟨h1, hh, by omega, fun heq => ?_⟩
  have hlx := best_first hh hn he (by omega) h3 heq.symm
  have hg : ∀ i, i < c.n → (((ordL k x).getD i 0 : Nat) : Int) = x i := fun i hi => by
    have h4 := (h2 i (by omega)).1
    unfold ordL
    rw [List.getD_eq_getElem?_getD, List.getElem?_map, List.getElem?_range (by omega)]
    simp
    omega
  rcases lx_at _ _ hlx (by omega) with h4 | ⟨t, h4, h5, h6⟩
  · left
    intro i hi
    rw [h4 i (by omega)]
    exact hg i hi
  · right
    refine ⟨t, by omega, fun i hi => ?_, ?_⟩
    · rw [h5 i hi]
      exact hg i (by omega)
    · have := hg t (by omega)
      omega
end Go.Proofs.YtlachbodibajlaaDoor
namespace Go.Proofs.YtlachbodibajlaaDoor
open Go.RowKit Go.Shelf

/-- the law's copy of a plan -/
def cutOk (n mc m : Nat) (st : Nat → Int) (ln : Nat → Nat) (y : Nat → Nat → Int) (a b : Nat → Int) : Bool := okPlan (min n 12) (min mc 12) (min m 42) st (fun i => min (ln i) 12) y a b
def cutC (n m : Nat) (st : Nat → Int) (y : Nat → Nat → Int) (a b : Nat → Int) : Crs := crs (min n 12) (min m 42) st y a b
theorem cutC_ok {n mc m : Nat} {st : Nat → Int} {ln : Nat → Nat} {y : Nat → Nat → Int} {a b : Nat → Int} (h : cutOk n mc m st ln y a b = true) : (cutC n m st y a b).ok ∧ (∀ i, (cutC n m st y a b).en i = 0) := ⟨(okPlan_iff.1 h).crs, fun _ => rfl⟩
theorem best_any_len {c : Crs} : c.best.length = c.n := grd_len _ _ _ _ _
theorem cost_best {c : Crs} (hh : c.has = true) (hn : 1 ≤ c.n) (he : ∀ i, i < c.n → c.en i = 0) : costV true c c.n (fun i => ((c.best.getD i 0 : Nat) : Int)) = c.cst 0 0 c.best ∧ costE true c c.n (fun i => ((c.best.getD i 0 : Nat) : Int)) = 0 := by
  obtain ⟨b1, b2, b3⟩ := best_ok hh hn he
  have h1 := okO_of b1 b2
  have h2 := ordL_get c.best
  rw [b1] at h2
  unfold costV costE
  rw [h1, h2]
  exact ⟨rfl, rfl⟩

set_option maxHeartbeats 8000000 in
set_option maxRecDepth 100000 in
theorem bathFirst_walk (S C B O : Value) (n mc m : Nat) (st : Nat → Int) (ln : Nat → Nat) (y : Nat → Nat → Int) (a b : Nat → Int) (q : Nat) (x : Nat → Int) (W : World) (h : Pv W S C B n mc m st ln y a b) (hO : Il W O q x) :
    Calls Tryd.prog 10 #[.agg #[S, C, B], O] W fun e W' => e = .returned (.bool true) ∧ Ext W W' := by
  have HV := Lib.hid h; have HO := Lib.hid hO
  have HOF := Lib.hid fun X hX => of_any S C B n mc m st ln y a b X hX
  have HBS := Lib.hid fun X S C B (hX : Pv X S C B (min n 12) (min mc 12) (min m 42) st (fun i => min (ln i) 12) y a b) => Best_any S C B _ _ _ st _ y a b X hX
  have HCS := Lib.hid fun X S C B O q x (hX : Pv X S C B (min n 12) (min mc 12) (min m 42) st (fun i => min (ln i) 12) y a b) (hO : Il X O q x) => Cost_any S C B O _ _ _ st _ y a b q x X hX hO
  obtain ⟨A, k, rfl, -⟩ := id h.vs
  obtain ⟨A2, k2, rfl, -⟩ := id h.vc
  obtain ⟨A3, k3, rfl, -⟩ := id h.vb
  obtain ⟨OA, ok, rfl, -⟩ := id hO
  have hck := @cutC_ok n mc m st ln y a b
  unfold cutOk cutC at hck
  obtain ⟨okb, hokb⟩ : ∃ t, t = okPlan (min n 12) (min mc 12) (min m 42) st (fun i => min (ln i) 12) y a b := ⟨_, rfl⟩
  obtain ⟨c, hc⟩ : ∃ t, t = crs (min n 12) (min m 42) st y a b := ⟨_, rfl⟩
  simp only [← hokb, ← hc] at HBS HCS hck
  have HCK := Lib.hid hck
  have e1 : Ext W (W.alloc (.cells #[.slice A n k, .slice A2 mc k2, .slice A3 m k3] 48)) := al1 W _
  have hbk := heap_alloc_new W (.cells #[.slice A n k, .slice A2 mc k2, .slice A3 m k3] 48)
  clear h hO hokb hc hck
  go_enter Tryd.func10, Tryd.ntmps10
  go_upto_region 1 with fail
  obtain ⟨s1, hs1⟩ : ∃ s, s = W.heap.size := ⟨_, rfl⟩
  rw [← hs1] at hbk ⊢
  generalize W.alloc (.cells #[.slice A n k, .slice A2 mc k2, .slice A3 m k3] 48) = W1 at *
  have HB := Lib.hid hbk
  have HX := Lib.hid (Ext.refl W1)
  have E1 := Lib.hid e1
  clear hbk hs1 e1
  cases hk : okb
  · subst hk
    have hcV : ∀ q x, costE false c q x = 2 := fun _ _ => rfl
    have hbE : bestE false c = 2 := rfl
    simp only [hcV, hbE] at HCS HBS
    have h20 : ((2 : Int) != 0) = true := rfl
    clear hcV hbE
    obtain ⟨c0, c1, c2, z0⟩ := three_c (ext_ty HX.out HB.out)
    go_wp2_with fail
    refine (HOF.out _ (HV.out.ext (E1.out.trans HX.out))).mono ?_
    rintro e w1 ⟨S1, C1, B1, rfl, hp, hx⟩
    replace HX := Lib.hid (HX.out.trans hx)
    have HP1 := Lib.hid hp
    clear hp hx c0 c1 c2 z0
    go_wp2_with fail
    refine (HBS.out _ _ _ _ HP1.out).mono ?_
    rintro e w1b ⟨U, rfl, hil, hx⟩
    replace HX := Lib.hid (HX.out.trans hx)
    have HIL := Lib.hid hil
    obtain ⟨UA, uc, rfl, -⟩ := id hil
    clear hil hx
    obtain ⟨c0, c1, c2, z0⟩ := three_c (ext_ty HX.out HB.out)
    go_wp2_with fail
    refine (HOF.out _ (HV.out.ext (E1.out.trans HX.out))).mono ?_
    rintro e w2 ⟨S2, C2, B2, rfl, hp, hx⟩
    replace HX := Lib.hid (HX.out.trans hx)
    have HP2 := Lib.hid hp
    clear hp hx c0 c1 c2 z0
    go_wp2_with fail
    refine (HCS.out _ _ _ _ _ _ _ HP2.out (HO.out.ext (E1.out.trans HX.out))).mono ?_
    rintro e w2c ⟨rfl, hx⟩
    replace HX := Lib.hid (HX.out.trans hx)
    clear hx
    go_wp2_with fail
    refine (awake_any _).mono ?_
    rintro e w9 ⟨rfl, hx⟩
    replace HX := Lib.hid (HX.out.trans hx); clear hx
    go_wp2
    go_ret
    exact ⟨rfl, E1.out.trans HX.out⟩
  subst hk
  obtain ⟨hcok, hen⟩ := HCK.out rfl
  have hn1 := hcok.n1
  have hrl := rnds_lt c c.n
  cases hh : c.has
  · have hoO : c.okO q x = false := by
      cases hv : c.okO q x
      · rfl
      · have := (okO_best hn1 (fun i _ => hen i) hrl hv).2.1
        rw [hh] at this; cases this
    have hcE : costE true c q x = 6 := by unfold costE; rw [hoO]; rfl
    have hbE : bestE true c = 7 := by unfold bestE; rw [hh]; rfl
    simp only [hbE] at HBS
    have HCE := Lib.hid hcE
    have h20 : ((7 : Int) != 0) = true := rfl
    have h27 : ((7 : Int) == 2) = false := rfl
    clear hcE hbE hoO hcok hen hrl hh
    obtain ⟨c0, c1, c2, z0⟩ := three_c (ext_ty HX.out HB.out)
    go_wp2_with fail
    refine (HOF.out _ (HV.out.ext (E1.out.trans HX.out))).mono ?_
    rintro e w1 ⟨S1, C1, B1, rfl, hp, hx⟩
    replace HX := Lib.hid (HX.out.trans hx)
    have HP1 := Lib.hid hp
    clear hp hx c0 c1 c2 z0
    go_wp2_with fail
    refine (HBS.out _ _ _ _ HP1.out).mono ?_
    rintro e w1b ⟨U, rfl, hil, hx⟩
    replace HX := Lib.hid (HX.out.trans hx)
    have HIL := Lib.hid hil
    obtain ⟨UA, uc, rfl, -⟩ := id hil
    clear hil hx
    obtain ⟨c0, c1, c2, z0⟩ := three_c (ext_ty HX.out HB.out)
    go_wp2_with fail
    refine (HOF.out _ (HV.out.ext (E1.out.trans HX.out))).mono ?_
    rintro e w2 ⟨S2, C2, B2, rfl, hp, hx⟩
    replace HX := Lib.hid (HX.out.trans hx)
    have HP2 := Lib.hid hp
    clear hp hx c0 c1 c2 z0
    go_wp2_with fail
    refine (HCS.out _ _ _ _ _ _ _ HP2.out (HO.out.ext (E1.out.trans HX.out))).mono ?_
    rintro e w2c ⟨rfl, hx⟩
    replace HX := Lib.hid (HX.out.trans hx)
    clear hx
    rw [HCE.out]
    go_wp2_with fail
    refine (awake_any _).mono ?_
    rintro e w9 ⟨rfl, hx⟩
    replace HX := Lib.hid (HX.out.trans hx); clear hx
    go_wp2
    go_ret
    exact ⟨rfl, E1.out.trans HX.out⟩
  have hbE : bestE true c = 0 := by unfold bestE; rw [hh]; rfl
  have hbN : bestN true c = c.n := by unfold bestN; rw [hh]; rfl
  simp only [hbE, hbN] at HBS
  have HCB := Lib.hid (cost_best hh hn1 (fun i _ => hen i))
  have h00 : ((0 : Int) != 0) = false := rfl
  obtain ⟨nb, hnb⟩ : ∃ v, v = c.cst 0 0 c.best := ⟨_, rfl⟩
  rw [← hnb] at HCB
  cases hoO : c.okO q x
  · have hcE : costE true c q x = 6 := by unfold costE; rw [hoO]; rfl
    have HCE := Lib.hid hcE
    have h60 : ((6 : Int) != 0) = true := rfl
    clear hbE hbN hcok hen hrl hh hnb hoO hcE
    obtain ⟨c0, c1, c2, z0⟩ := three_c (ext_ty HX.out HB.out)
    go_wp2_with fail
    refine (HOF.out _ (HV.out.ext (E1.out.trans HX.out))).mono ?_
    rintro e w1 ⟨S1, C1, B1, rfl, hp, hx⟩
    replace HX := Lib.hid (HX.out.trans hx)
    have HP1 := Lib.hid hp
    clear hp hx c0 c1 c2 z0
    go_wp2_with fail
    refine (HBS.out _ _ _ _ HP1.out).mono ?_
    rintro e w1b ⟨U, rfl, hil, hx⟩
    replace HX := Lib.hid (HX.out.trans hx)
    have HIL := Lib.hid hil
    obtain ⟨UA, uc, rfl, -⟩ := id hil
    clear hil hx
    have HY := Lib.hid (Ext.refl w1b)
    obtain ⟨c0, c1, c2, z0⟩ := three_c (ext_ty HX.out HB.out)
    go_wp2_with fail
    refine (HOF.out _ (HV.out.ext (E1.out.trans HX.out))).mono ?_
    rintro e w2 ⟨S2, C2, B2, rfl, hp, hx⟩
    replace HX := Lib.hid (HX.out.trans hx)
    replace HY := Lib.hid (HY.out.trans hx)
    have HP2 := Lib.hid hp
    clear hp hx c0 c1 c2 z0
    go_wp2_with fail
    refine (HCS.out _ _ _ _ _ _ _ HP2.out (HO.out.ext (E1.out.trans HX.out))).mono ?_
    rintro e w2c ⟨rfl, hx⟩
    replace HX := Lib.hid (HX.out.trans hx)
    replace HY := Lib.hid (HY.out.trans hx)
    clear hx
    rw [HCE.out]
    obtain ⟨c0, c1, c2, z0⟩ := three_c (ext_ty HX.out HB.out)
    go_wp2_with fail
    refine (HOF.out _ (HV.out.ext (E1.out.trans HX.out))).mono ?_
    rintro e w3 ⟨S3, C3, B3, rfl, hp, hx⟩
    replace HX := Lib.hid (HX.out.trans hx)
    replace HY := Lib.hid (HY.out.trans hx)
    have HP3 := Lib.hid hp
    clear hp hx c0 c1 c2 z0
    go_wp2_with fail
    refine (HCS.out _ _ _ _ _ _ _ HP3.out (HIL.out.ext HY.out)).mono ?_
    rintro e w3c ⟨rfl, hx⟩
    replace HX := Lib.hid (HX.out.trans hx)
    replace HY := Lib.hid (HY.out.trans hx)
    rw [HCB.out.1, HCB.out.2]
    clear hx
    go_wp2_with fail
    refine (awake_any _).mono ?_
    rintro e w9 ⟨rfl, hx⟩
    replace HX := Lib.hid (HX.out.trans hx); clear hx
    go_wp2
    go_ret
    exact ⟨rfl, E1.out.trans HX.out⟩
  have hcE : costE true c q x = 0 := by unfold costE; rw [hoO]; rfl
  have hcV : costV true c q x = c.cst 0 0 (ordL q x) := by unfold costV; rw [hoO]; rfl
  obtain ⟨hqn, -, hle, hcm⟩ := okO_best hn1 (fun i _ => hen i) hrl hoO
  obtain ⟨mb, hmb⟩ : ∃ v, v = c.cst 0 0 (ordL q x) := ⟨_, rfl⟩
  rw [← hmb] at hcV hle hcm
  rw [← hnb] at hle hcm
  have HCE := Lib.hid hcE
  have HCV := Lib.hid hcV
  have HQN := Lib.hid hqn
  clear hbE hbN hcok hen hrl hh hnb hoO hcE hcV hmb hqn
  by_cases hlt : nb < mb
  · clear hle hcm
    obtain ⟨c0, c1, c2, z0⟩ := three_c (ext_ty HX.out HB.out)
    go_wp2_with fail
    refine (HOF.out _ (HV.out.ext (E1.out.trans HX.out))).mono ?_
    rintro e w1 ⟨S1, C1, B1, rfl, hp, hx⟩
    replace HX := Lib.hid (HX.out.trans hx)
    have HP1 := Lib.hid hp
    clear hp hx c0 c1 c2 z0
    go_wp2_with fail
    refine (HBS.out _ _ _ _ HP1.out).mono ?_
    rintro e w1b ⟨U, rfl, hil, hx⟩
    replace HX := Lib.hid (HX.out.trans hx)
    have HIL := Lib.hid hil
    obtain ⟨UA, uc, rfl, -⟩ := id hil
    clear hil hx
    have HY := Lib.hid (Ext.refl w1b)
    obtain ⟨c0, c1, c2, z0⟩ := three_c (ext_ty HX.out HB.out)
    go_wp2_with fail
    refine (HOF.out _ (HV.out.ext (E1.out.trans HX.out))).mono ?_
    rintro e w2 ⟨S2, C2, B2, rfl, hp, hx⟩
    replace HX := Lib.hid (HX.out.trans hx)
    replace HY := Lib.hid (HY.out.trans hx)
    have HP2 := Lib.hid hp
    clear hp hx c0 c1 c2 z0
    go_wp2_with fail
    refine (HCS.out _ _ _ _ _ _ _ HP2.out (HO.out.ext (E1.out.trans HX.out))).mono ?_
    rintro e w2c ⟨rfl, hx⟩
    replace HX := Lib.hid (HX.out.trans hx)
    replace HY := Lib.hid (HY.out.trans hx)
    clear hx
    rw [HCE.out]
    rw [HCV.out]
    obtain ⟨c0, c1, c2, z0⟩ := three_c (ext_ty HX.out HB.out)
    go_wp2_with fail
    refine (HOF.out _ (HV.out.ext (E1.out.trans HX.out))).mono ?_
    rintro e w3 ⟨S3, C3, B3, rfl, hp, hx⟩
    replace HX := Lib.hid (HX.out.trans hx)
    replace HY := Lib.hid (HY.out.trans hx)
    have HP3 := Lib.hid hp
    clear hp hx c0 c1 c2 z0
    go_wp2_with fail
    refine (HCS.out _ _ _ _ _ _ _ HP3.out (HIL.out.ext HY.out)).mono ?_
    rintro e w3c ⟨rfl, hx⟩
    replace HX := Lib.hid (HX.out.trans hx)
    replace HY := Lib.hid (HY.out.trans hx)
    rw [HCB.out.1, HCB.out.2]
    clear hx
    go_wp2_with fail
    refine (awake_any _).mono ?_
    rintro e w9 ⟨rfl, hx⟩
    replace HX := Lib.hid (HX.out.trans hx); clear hx
    go_wp2
    go_ret
    exact ⟨rfl, E1.out.trans HX.out⟩
  · obtain rfl : mb = nb := by omega
    have HCM := Lib.hid (hcm rfl)
    clear hle hcm
    obtain ⟨c0, c1, c2, z0⟩ := three_c (ext_ty HX.out HB.out)
    go_wp2_with fail
    refine (HOF.out _ (HV.out.ext (E1.out.trans HX.out))).mono ?_
    rintro e w1 ⟨S1, C1, B1, rfl, hp, hx⟩
    replace HX := Lib.hid (HX.out.trans hx)
    have HP1 := Lib.hid hp
    clear hp hx c0 c1 c2 z0
    go_wp2_with fail
    refine (HBS.out _ _ _ _ HP1.out).mono ?_
    rintro e w1b ⟨U, rfl, hil, hx⟩
    replace HX := Lib.hid (HX.out.trans hx)
    have HIL := Lib.hid hil
    obtain ⟨UA, uc, rfl, -⟩ := id hil
    clear hil hx
    have HY := Lib.hid (Ext.refl w1b)
    obtain ⟨c0, c1, c2, z0⟩ := three_c (ext_ty HX.out HB.out)
    go_wp2_with fail
    refine (HOF.out _ (HV.out.ext (E1.out.trans HX.out))).mono ?_
    rintro e w2 ⟨S2, C2, B2, rfl, hp, hx⟩
    replace HX := Lib.hid (HX.out.trans hx)
    replace HY := Lib.hid (HY.out.trans hx)
    have HP2 := Lib.hid hp
    clear hp hx c0 c1 c2 z0
    go_wp2_with fail
    refine (HCS.out _ _ _ _ _ _ _ HP2.out (HO.out.ext (E1.out.trans HX.out))).mono ?_
    rintro e w2c ⟨rfl, hx⟩
    replace HX := Lib.hid (HX.out.trans hx)
    replace HY := Lib.hid (HY.out.trans hx)
    clear hx
    rw [HCE.out]
    rw [HCV.out]
    obtain ⟨c0, c1, c2, z0⟩ := three_c (ext_ty HX.out HB.out)
    go_wp2_with fail
    refine (HOF.out _ (HV.out.ext (E1.out.trans HX.out))).mono ?_
    rintro e w3 ⟨S3, C3, B3, rfl, hp, hx⟩
    replace HX := Lib.hid (HX.out.trans hx)
    replace HY := Lib.hid (HY.out.trans hx)
    have HP3 := Lib.hid hp
    clear hp hx c0 c1 c2 z0
    go_wp2_with fail
    refine (HCS.out _ _ _ _ _ _ _ HP3.out (HIL.out.ext HY.out)).mono ?_
    rintro e w3c ⟨rfl, hx⟩
    replace HX := Lib.hid (HX.out.trans hx)
    replace HY := Lib.hid (HY.out.trans hx)
    rw [HCB.out.1, HCB.out.2]
    clear hx
    go_wp2_with fail
    have hO9 : Il w3c (.slice OA q ok) c.n x := by rw [← HQN.out]; exact HO.out.ext (E1.out.trans HX.out)
    refine (compare_any c.n _ x _ _ _ (HIL.out.ext HY.out) hO9 HCM.out).mono ?_
    rintro e w3d ⟨r, rfl, hr0, rfl⟩
    clear hO9
    go_wp2_with fail
    refine (awake_any _).mono ?_
    rintro e w9 ⟨rfl, hx⟩
    replace HX := Lib.hid (HX.out.trans hx); clear hx
    go_wp2
    go_ret
    exact ⟨rfl, E1.out.trans HX.out⟩
end Go.Proofs.YtlachbodibajlaaDoor
namespace Go.Proofs.YtlachbodibajlaaDoor
open Go.RowKit Go.Shelf

theorem num_lt {c : Crs} {s x : Nat} (hs : s < 2 ^ c.n) (hx : x < c.n) : c.n * s + x < c.sz := by
  have h6 : c.n * (s + 1) ≤ c.n * 2 ^ c.n := Nat.mul_le_mul_left _ hs
  rw [Nat.mul_add, Nat.mul_one] at h6
  unfold Crs.sz; omega

set_option maxHeartbeats 4000000 in
set_option maxRecDepth 100000 in
theorem cheapestT_any (S C E N : Value) (c : Crs) (W0 W : World) (kb g1 g2 s l : Nat) (pr : Nat → Int) (Inv : World → Prop) (h : Cv W0 S C E N c) (hc : c.ok) (hs : s < 2 ^ c.n) (hl : l < c.n) (hI : Inv W)
    (hI1 : ∀ X, Inv X → Ext W0 X) (hI2 : ∀ X Y, Inv X → Ext X Y → Inv Y) (hg1 : g1 < W.heap.size) (hg2 : g2 < W.heap.size)
    (hb : ∀ p, p < c.sz → -1099511627776 ≤ pr p ∧ pr p ≤ 1099511627776)
    (hP : ∀ x, x < c.n → c.can s x = true → ∀ X, Inv X → Calls Tryd.prog 83 #[.int .i64 ((c.n * (s ||| 2 ^ x) + x : Nat) : Int), .pointer (some ⟨kb, 0, none⟩)] X fun e X' => e = .returned (.int .i64 (pr (c.n * (s ||| 2 ^ x) + x))) ∧ Kq g1 g2 X X' ∧ Inv X') :
    Calls Tryd.prog 84 #[.agg #[S, C, E, N], .func (.func 83) #[] #[.pointer (some ⟨kb, 0, none⟩)], .int .i64 s, .int .i64 l] W fun e W' => e = .returned (.tuple #[.int .i64 (c.chp pr s l).1, .int .i64 (c.chp pr s l).2]) ∧ Kq g1 g2 W W' ∧ Inv W' := by
  obtain ⟨A, k, rfl, hk, hk2, -⟩ := id h.vs
  obtain ⟨A2, k2, rfl, -⟩ := id h.vc
  obtain ⟨A3, k3, rfl, -⟩ := id h.ve
  obtain ⟨A4, k4, rfl, -⟩ := id h.vn
  have hn := hc.n10
  have hs2 : s < 1024 := Nat.lt_of_lt_of_le hs (pow_1024 hn)
  have HC := Lib.hid h; have HOK := Lib.hid hc; have HS := Lib.hid hs; have HINV := Lib.hid (And.intro hI1 hI2); have HPR := Lib.hid hP; have HBD := Lib.hid hb
  have e1 : Ext W (W.alloc (.cells #[.slice A c.n k, .slice A2 c.n k2, .slice A3 c.n k3, .slice A4 c.n k4] 93)) := al1 W _
  have hin0 : Hid (Inv (W.alloc (.cells #[.slice A c.n k, .slice A2 c.n k2, .slice A3 c.n k3, .slice A4 c.n k4] 93)) ∧ Kq g1 g2 W (W.alloc (.cells #[.slice A c.n k, .slice A2 c.n k2, .slice A3 c.n k3, .slice A4 c.n k4] 93))) := Lib.hid ⟨hI2 _ _ hI e1, Kq.of g1 g2 e1⟩
  have hbk := heap_alloc_new W (.cells #[.slice A c.n k, .slice A2 c.n k2, .slice A3 c.n k3, .slice A4 c.n k4] 93)
  clear h hc hs hk hk2 hI1 hI2 hP hb hI e1
  go_enter Tryd.func84, Tryd.ntmps84
  go_upto_region 1 with fail
  obtain ⟨s1, hs1⟩ : ∃ s, s = W.heap.size := ⟨_, rfl⟩
  rw [← hs1] at hbk hg1 hg2 ⊢
  generalize W.alloc (.cells #[.slice A c.n k, .slice A2 c.n k2, .slice A3 c.n k3, .slice A4 c.n k4] 93) = W1 at *
  have gs1 : s1 ≠ g1 := by omega
  have gs2 : s1 ≠ g2 := by omega
  obtain ⟨c0, c1, c2, c3, z0⟩ := four_c hbk
  have HBK := Lib.hid hbk
  clear hbk hs1
  go_wp2_with fail
  refine (baths_any _ _ _ _ c _ (HC.out.ext (HINV.out.1 _ hin0.out.1)) HOK.out).mono ?_
  rintro e w2 ⟨rfl, hx⟩
  replace hin0 : Hid (Inv w2 ∧ Kq g1 g2 W w2) := Lib.hid ⟨HINV.out.2 _ _ hin0.out.1 hx, hin0.out.2.trans (Kq.of g1 g2 hx)⟩
  replace c0 := hx.at z0 c0
  replace c1 := hx.at z0 c1
  replace c2 := hx.at z0 c2
  replace c3 := hx.at z0 c3
  replace z0 := Nat.lt_of_lt_of_le z0 hx.size
  have HCC := Lib.hid (And.intro c0 (And.intro c1 (And.intro c2 (And.intro c3 z0))))
  clear c0 c1 c2 c3 z0 hx
  go_wp2_with fail
  go_loopw [8, 9, 14] (fun b d xx wr => ∃ (x : Nat) (bb dd : Int), xx = .int .i64 x ∧ x ≤ c.n ∧ b = .int .i64 bb ∧ d = .int .i64 dd ∧ Hid ((bb, dd) = ((List.range x).foldl (c.ck pr s l) (-1, 0))) ∧ Hid (Inv wr ∧ Kq g1 g2 W wr) ∧ Hid (Kq g1 g2 w2 wr)) (fun _ _ xx _ => c.n - (intOf xx).toNat)
  case atStart => exact ⟨0, -1, 0, rfl, Nat.zero_le _, rfl, rfl, Lib.hid rfl, hin0, Lib.hid (Kq.refl _ _ _)⟩
  case round =>
    clear hin0
    obtain ⟨x, bb, dd, rfl, hx, rfl, rfl, hbd, hin, hkw⟩ := hrel
    by_cases hxn : x < c.n
    · obtain ⟨c0, c1, c2, c3, z0⟩ := HCC.out
      replace c0 := hkw.out.cell z0 gs1 gs2 c0
      replace c1 := hkw.out.cell z0 gs1 gs2 c1
      replace c2 := hkw.out.cell z0 gs1 gs2 c2
      replace c3 := hkw.out.cell z0 gs1 gs2 c3
      replace z0 := Nat.lt_of_lt_of_le z0 hkw.out.size
      have hstep : (List.range (x + 1)).foldl (c.ck pr s l) (-1, 0) = c.ck pr s l (bb, dd) x := by
        rw [List.range_succ, List.foldl_append, ← hbd.out]; rfl
      have HST := Lib.hid hstep
      clear hstep
      go_wp2_with fail
      refine (canFollow_any _ _ _ _ c _ s x (HC.out.ext (HINV.out.1 _ hin.out.1)) HOK.out HS.out hxn).mono ?_
      rintro e w3 ⟨rfl, hx3⟩
      replace c0 := hx3.at z0 c0
      replace c1 := hx3.at z0 c1
      replace c2 := hx3.at z0 c2
      replace c3 := hx3.at z0 c3
      replace z0 := Nat.lt_of_lt_of_le z0 hx3.size
      replace hin : Hid (Inv w3 ∧ Kq g1 g2 W w3) := Lib.hid ⟨HINV.out.2 _ _ hin.out.1 hx3, hin.out.2.trans (Kq.of g1 g2 hx3)⟩
      replace hkw := Lib.hid (hkw.out.trans (Kq.of g1 g2 hx3))
      clear hx3
      cases hcan : c.can s x
      · have hsame : c.ck pr s l (bb, dd) x = (bb, dd) := by unfold Crs.ck; rw [hcan]; rfl
        have HSA := Lib.hid hsame
        clear hsame hcan c0 c1 c2 c3 z0
        go_wp2
        go_roundw
        case rel => exact ⟨x + 1, bb, dd, by go_num, by omega, rfl, rfl, Lib.hid (by rw [HST.out, HSA.out]), hin, hkw⟩
        case measure => simp [intOf] <;> omega
      · have HCAN := Lib.hid hcan
        obtain ⟨px, hpx⟩ : ∃ a : Nat, a = 2 ^ x := ⟨_, rfl⟩
        obtain ⟨sx, hsx⟩ : ∃ a : Nat, a = s ||| 2 ^ x := ⟨_, rfl⟩
        have hpl : px < 1024 := by rw [hpx]; exact Nat.lt_of_lt_of_le (Nat.pow_lt_pow_right (by omega) hxn) (pow_1024 hn)
        have y1 : (2 : Int) ^ x = (px : Int) := by rw [hpx]; simp
        have y2 : bits .or .i64 (s : Int) (px : Int) = (sx : Int) := by rw [or_nat hs2 hpl, hsx, hpx]
        have y3 : sx < 2 ^ c.n := by rw [hsx]; exact or_lt HS.out hxn
        have y4 : IntKind.i64.wrap (px : Int) = (px : Int) := IntWalk.i64_in _ (by omega)
        have HSX := Lib.hid (And.intro y1 (And.intro y2 (And.intro y3 y4)))
        have HPR2 := Lib.hid (HPR.out x hxn hcan)
        have hbv := HBD.out (c.n * sx + x) (num_lt y3 hxn)
        have hbs := stp_bd HOK.out (s := s) hl hxn
        obtain ⟨v, hv⟩ : ∃ v, v = c.stp s l x + pr (c.n * sx + x) := ⟨_, rfl⟩
        have hvw : IntKind.i64.wrap (c.stp s l x + pr (c.n * sx + x)) = v := by rw [hv]; exact IntWalk.i64_in _ (by omega)
        have HV := Lib.hid hvw
        have hck : c.ck pr s l (bb, dd) x = if bb < 0 ∨ v < dd then ((x : Int), v) else (bb, dd) := by
          unfold Crs.ck
          rw [if_pos hcan, ← hsx, ← hv]
        have HCK := Lib.hid hck
        rw [← hsx] at HPR2
        clear hcan hpx hpl y1 y2 y3 y4 hbv hbs hvw hck hv hsx
        have hid : Inv w3.drew := HINV.out.2 _ _ hin.out.1 (Ext.drw (Ext.refl _))
        have HPRx := HPR
        clear HPR
        obtain ⟨wr, hwr⟩ : ∃ w, w = w3 := ⟨_, rfl⟩
        subst hwr
        go_upto_region 6 with fail
        refine wp_region_noPanic ?_
        refine wp_region_held_drew (S := fun X => Kq g1 g2 wr X) (by kernel_rfl) ((Kq.refl g1 g2 wr).drw) (fun _ => ?_)
        refine take_at 0 (some 22) (.agg #[.slice A c.n k, .slice A2 c.n k2, .slice A3 c.n k3, .slice A4 c.n k4]) rfl rfl (by kernel_rfl) (by kernel_rfl) (by kernel_rfl) (fun _ _ _ h => h) (Or.inl ⟨by rfl, fun w' hSw => ?_⟩) ((Kq.refl g1 g2 wr).drw) ?_
        · have m0 := hSw.cell z0 gs1 gs2 c0
          have m1 := hSw.cell z0 gs1 gs2 c1
          have m2 := hSw.cell z0 gs1 gs2 c2
          have m3 := hSw.cell z0 gs1 gs2 c3
          try clear hSw
          go_simp
          all_goals (with_reducible rfl)
        try simp only [Act.put, List.setIfInBounds_toArray, List.set_cons_zero, List.set_cons_succ]
        refine take_at 1 (some 23) (.int .i64 (s : Nat)) rfl rfl (by kernel_rfl) (by kernel_rfl) (by kernel_rfl) (fun _ _ _ h => h) (Or.inl ⟨by rfl, fun w' hSw => ?_⟩) ((Kq.refl g1 g2 wr).drw) ?_
        · skip
          try clear hSw
          go_simp
          all_goals (with_reducible rfl)
        try simp only [Act.put, List.setIfInBounds_toArray, List.set_cons_zero, List.set_cons_succ]
        refine take_at 2 (some 24) (.int .i64 (l : Nat)) rfl rfl (by kernel_rfl) (by kernel_rfl) (by kernel_rfl) (fun _ _ _ h => h) (Or.inl ⟨by rfl, fun w' hSw => ?_⟩) ((Kq.refl g1 g2 wr).drw) ?_
        · skip
          try clear hSw
          go_simp
          all_goals (with_reducible rfl)
        try simp only [Act.put, List.setIfInBounds_toArray, List.set_cons_zero, List.set_cons_succ]
        refine take_at 3 (some 25) (.int .i64 (x : Nat)) rfl rfl (by kernel_rfl) (by kernel_rfl) (by kernel_rfl) (fun _ _ _ h => h) (Or.inl ⟨by rfl, fun w' hSw => ?_⟩) ((Kq.refl g1 g2 wr).drw) ?_
        · skip
          try clear hSw
          go_simp
          all_goals (with_reducible rfl)
        try simp only [Act.put, List.setIfInBounds_toArray, List.set_cons_zero, List.set_cons_succ]
        refine take_at 5 (some 27) (.func (.func 83) #[] #[.pointer (some ⟨kb, 0, none⟩)]) rfl rfl (by kernel_rfl) (by kernel_rfl) (by kernel_rfl) (fun _ _ _ h => h) (Or.inl ⟨by rfl, fun w' hSw => ?_⟩) ((Kq.refl g1 g2 wr).drw) ?_
        · skip
          try clear hSw
          go_simp
          all_goals (with_reducible rfl)
        try simp only [Act.put, List.setIfInBounds_toArray, List.set_cons_zero, List.set_cons_succ]
        refine take_at 6 (some 28) (.agg #[.slice A c.n k, .slice A2 c.n k2, .slice A3 c.n k3, .slice A4 c.n k4]) rfl rfl (by kernel_rfl) (by kernel_rfl) (by kernel_rfl) (fun _ _ _ h => h) (Or.inl ⟨by rfl, fun w' hSw => ?_⟩) ((Kq.refl g1 g2 wr).drw) ?_
        · have m0 := hSw.cell z0 gs1 gs2 c0
          have m1 := hSw.cell z0 gs1 gs2 c1
          have m2 := hSw.cell z0 gs1 gs2 c2
          have m3 := hSw.cell z0 gs1 gs2 c3
          try clear hSw
          go_simp
          all_goals (with_reducible rfl)
        try simp only [Act.put, List.setIfInBounds_toArray, List.set_cons_zero, List.set_cons_succ]
        refine take_at 7 (some 29) (.int .i64 (s : Nat)) rfl rfl (by kernel_rfl) (by kernel_rfl) (by kernel_rfl) (fun _ _ _ h => h) (Or.inl ⟨by rfl, fun w' hSw => ?_⟩) ((Kq.refl g1 g2 wr).drw) ?_
        · skip
          try clear hSw
          go_simp
          all_goals (with_reducible rfl)
        try simp only [Act.put, List.setIfInBounds_toArray, List.set_cons_zero, List.set_cons_succ]
        refine take_at 8 (some 30) (.int .i64 (x : Nat)) rfl rfl (by kernel_rfl) (by kernel_rfl) (by kernel_rfl) (fun _ _ _ h => h) (Or.inl ⟨by rfl, fun w' hSw => ?_⟩) ((Kq.refl g1 g2 wr).drw) ?_
        · skip
          try clear hSw
          go_simp
          all_goals (with_reducible rfl)
        try simp only [Act.put, List.setIfInBounds_toArray, List.set_cons_zero, List.set_cons_succ]
        refine take_at 9 (some 31) (.int .i64 (px : Nat)) rfl rfl (by kernel_rfl) (by kernel_rfl) (by kernel_rfl) (fun _ _ _ h => h) (Or.inl ⟨by rfl, fun w' hSw => ?_⟩) ((Kq.refl g1 g2 wr).drw) ?_
        · have y := HSX.out.1
          have yw := HSX.out.2.2.2
          try clear hSw
          go_simp
          all_goals (with_reducible rfl)
        try simp only [Act.put, List.setIfInBounds_toArray, List.set_cons_zero, List.set_cons_succ]
        refine take_at 10 (some 32) (.int .i64 (sx : Nat)) rfl rfl (by kernel_rfl) (by kernel_rfl) (by kernel_rfl) (fun _ _ _ h => h) (Or.inl ⟨by rfl, fun w' hSw => ?_⟩) ((Kq.refl g1 g2 wr).drw) ?_
        · have y := HSX.out.2.1
          try clear hSw
          go_simp
          all_goals (with_reducible rfl)
        try simp only [Act.put, List.setIfInBounds_toArray, List.set_cons_zero, List.set_cons_succ]
        refine take_at 11 (some 33) (.int .i64 (x : Nat)) rfl rfl (by kernel_rfl) (by kernel_rfl) (by kernel_rfl) (fun _ _ _ h => h) (Or.inl ⟨by rfl, fun w' hSw => ?_⟩) ((Kq.refl g1 g2 wr).drw) ?_
        · skip
          try clear hSw
          go_simp
          all_goals (with_reducible rfl)
        try simp only [Act.put, List.setIfInBounds_toArray, List.set_cons_zero, List.set_cons_succ]
        refine wpAnyH_ready (rs := [4]) (by kernel_rfl) (by simp) ?_
        refine AllReadyH.cons rfl (fun K hK => ?_) AllReadyH.nil
        go_simp
        refine (step_any _ _ _ _ c _ s l x (HC.out.ext (HINV.out.1 _ hid)) hl hxn).mono ?_
        rintro e v4 ⟨rfl, hb4⟩
        have e4 : Kq g1 g2 wr v4 := ((Kq.refl g1 g2 wr).drw).trans (Kq.of g1 g2 hb4)
        have i4 : Inv v4 := HINV.out.2 _ _ (hid) hb4
        try go_wp2_with fail
        refine hK.out _ _ e4 (fun _ => ?_)
        clear hK K
        try simp only [Act.put, List.setIfInBounds_toArray, List.set_cons_zero, List.set_cons_succ]
        refine wpAnyH_ready (rs := [12]) (by kernel_rfl) (by simp) ?_
        refine AllReadyH.cons rfl (fun K hK => ?_) AllReadyH.nil
        go_simp
        refine (number_any _ _ _ _ c _ sx x (HC.out.ext (HINV.out.1 _ i4)) HOK.out HSX.out.2.2.1 hxn).mono ?_
        rintro e v12 ⟨rfl, hb12⟩
        have e12 : Kq g1 g2 wr v12 := (e4).trans (Kq.of g1 g2 hb12)
        have i12 : Inv v12 := HINV.out.2 _ _ (i4) hb12
        try go_wp2_with fail
        refine hK.out _ _ e12 (fun _ => ?_)
        clear hK K
        try simp only [Act.put, List.setIfInBounds_toArray, List.set_cons_zero, List.set_cons_succ]
        refine wpAnyH_ready (rs := [13]) (by kernel_rfl) (by simp) ?_
        refine AllReadyH.cons rfl (fun K hK => ?_) AllReadyH.nil
        go_simp
        refine (HPR2.out _ i12).mono ?_
        rintro e v13 ⟨rfl, hb13, hi13⟩
        have e13 : Kq g1 g2 wr v13 := (e12).trans hb13
        have i13 : Inv v13 := hi13
        try go_wp2_with fail
        refine hK.out _ _ e13 (fun _ => ?_)
        clear hK K
        try simp only [Act.put, List.setIfInBounds_toArray, List.set_cons_zero, List.set_cons_succ]
        refine take_at 14 (some 36) (.int .i64 v) rfl rfl (by kernel_rfl) (by kernel_rfl) (by kernel_rfl) (fun _ _ _ h => h) (Or.inl ⟨by rfl, fun w' hSw => ?_⟩) (e13) ?_
        · have y := HV.out
          try clear hSw
          go_simp
          all_goals (with_reducible rfl)
        try simp only [Act.put, List.setIfInBounds_toArray, List.set_cons_zero, List.set_cons_succ]
        refine take_at 15 (some 11) (.int .i64 v) rfl rfl (by kernel_rfl) (by kernel_rfl) (by kernel_rfl) (fun _ _ _ h => h) (Or.inl ⟨by rfl, fun w' hSw => ?_⟩) (e13) ?_
        · skip
          try clear hSw
          go_simp
          all_goals (with_reducible rfl)
        try simp only [Act.put, List.setIfInBounds_toArray, List.set_cons_zero, List.set_cons_succ]
        refine wpAnyH_done (by kernel_rfl) ?_ _
        refine NoPanic.normal ?_
        have HNK := Lib.hid (hkw.out.trans e13)
        have HN := Lib.hid (And.intro (hin.out.2.trans e13) i13)
        clear hb4 hb12 hb13 hi13 e4 e12 e13 i4 i12 i13 hid
        clear c0 c1 c2 c3 z0
        by_cases hbb : bb < 0
        · have HBB := Lib.hid hbb
          go_wp2
          go_roundw
          case rel => exact ⟨x + 1, (x : Int), v, by go_num, by omega, rfl, rfl, Lib.hid (by rw [HST.out, HCK.out, if_pos (Or.inl HBB.out)]), Lib.hid ⟨HN.out.2, HN.out.1⟩, HNK⟩
          case measure => simp [intOf] <;> omega
        · by_cases hvd : v < dd
          · have HBB := Lib.hid hvd
            go_wp2
            go_roundw
            case rel => exact ⟨x + 1, (x : Int), v, by go_num, by omega, rfl, rfl, Lib.hid (by rw [HST.out, HCK.out, if_pos (Or.inr HBB.out)]), Lib.hid ⟨HN.out.2, HN.out.1⟩, HNK⟩
            case measure => simp [intOf] <;> omega
          · have HBB := Lib.hid (And.intro hbb hvd)
            go_wp2
            go_roundw
            case rel => exact ⟨x + 1, bb, dd, by go_num, by omega, rfl, rfl, Lib.hid (by rw [HST.out, HCK.out, if_neg (fun h => h.elim HBB.out.1 HBB.out.2)]), Lib.hid ⟨HN.out.2, HN.out.1⟩, HNK⟩
            case measure => simp [intOf] <;> omega
    · obtain rfl : x = c.n := by omega
      have hfin : c.chp pr s l = (bb, dd) := hbd.out.symm
      have HFI := Lib.hid hfin
      have hx9 : ¬ (c.n : Int) < (c.n : Int) := by omega
      clear hfin
      go_wp2
      refine bodyPost_ret (v := .tuple #[.int .i64 bb, .int .i64 dd]) (by simp [results, Tryd.results84, go_sem]) rfl ?_
      exact ⟨by rw [HFI.out], hin.out.2, hin.out.1⟩
end Go.Proofs.YtlachbodibajlaaDoor
