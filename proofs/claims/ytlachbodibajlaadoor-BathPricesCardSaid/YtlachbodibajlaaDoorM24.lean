/- Walks: slices.Compare of a slice that is not behind the other. · Orders as mathematics: an order shows that there is one; an order beside the first cheapest. · Walks: the law BathFirst. · Walks: the reference's cheap and Valid. -/
import Derived.Test.YtlachbodibajlaaDoorM20
import Derived.Test.YtlachbodibajlaaDoorM22
import Derived.Test.YtlachbodibajlaaDoorM23
import Derived.Test.YtlachbodibajlaaDoorM21
import Derived.Test.YtlachbodibajlaaDoorM8
import Derived.Test.YtlachbodibajlaaDoorM19
namespace Go.Proofs.YtlachbodibajlaaDoor
open Go.RowKit Go.Shelf

set_option maxRecDepth 100000 in
theorem isNaN_any (p : Int) (W : World) : Calls Tryd.prog 107 #[.int .i64 p] W fun e W' => e = .returned (.bool false) ∧ W' = W := by
  have hb : (p != p) = false := by simp
  go_enter Tryd.func107, Tryd.ntmps107
  go_wp2
  go_ret
  exact ⟨rfl, rfl⟩
set_option maxRecDepth 100000 in
theorem cmpI_any (p q : Int) (W : World) (h : p ≤ q) : Calls Tryd.prog 79 #[.int .i64 p, .int .i64 q] W fun e W' => e = .returned (.int .i64 (if p < q then -1 else 0)) ∧ W' = W := by
  by_cases hlt : p < q
  · rw [if_pos hlt]
    go_enter Tryd.func79, Tryd.ntmps79
    go_wp2_with fail
    refine (isNaN_any p _).mono ?_
    rintro e w1 ⟨rfl, rfl⟩
    go_wp2_with fail
    refine (isNaN_any q _).mono ?_
    rintro e w2 ⟨rfl, rfl⟩
    go_wp2
    go_ret
    exact ⟨rfl, rfl⟩
  · rw [if_neg hlt]
    have hgt : ¬ q < p := by omega
    go_enter Tryd.func79, Tryd.ntmps79
    go_wp2_with fail
    refine (isNaN_any p _).mono ?_
    rintro e w1 ⟨rfl, rfl⟩
    go_wp2_with fail
    refine (isNaN_any q _).mono ?_
    rintro e w2 ⟨rfl, rfl⟩
    go_wp2
    go_ret
    exact ⟨rfl, rfl⟩
set_option maxHeartbeats 4000000 in
set_option maxRecDepth 100000 in
theorem compare_any (n : Nat) (x z : Nat → Int) (U V : Value) (W : World) (hU : Il W U n x) (hV : Il W V n z) (h : (∀ i, i < n → x i = z i) ∨ ∃ k, k < n ∧ (∀ i, i < k → x i = z i) ∧ x k < z k) :
    Calls Tryd.prog 35 #[U, V] W fun e W' => ∃ r : Int, e = .returned (.int .i64 r) ∧ r ≤ 0 ∧ W' = W := by
  have HU := Lib.hid hU; have HV := Lib.hid hV; have HH := Lib.hid h
  obtain ⟨A1, c1, rfl, hc1, hd1, -⟩ := id hU
  obtain ⟨A2, c2, rfl, -⟩ := id hV
  clear hU hV h
  go_enter Tryd.func35, Tryd.ntmps35
  go_wp2_with fail
  go_loopw [11] (fun i wr => ∃ j : Nat, i = .int .i64 j ∧ j ≤ n ∧ Hid (∀ t, t < j → x t = z t) ∧ wr = W) (fun i _ => n - (intOf i).toNat)
  case atStart => exact ⟨0, rfl, Nat.zero_le _, Lib.hid (fun t ht => by omega), rfl⟩
  case round =>
    obtain ⟨j, rfl, hj, heq, rfl⟩ := hrel
    by_cases hlt : j < n
    · have hle : x j ≤ z j := by
        rcases HH.out with h | ⟨k, h1, h2, h3⟩
        · rw [h j hlt]; exact Int.le_refl _
        · rcases Nat.lt_trichotomy j k with h | rfl | h
          · rw [h2 j h]; exact Int.le_refl _
          · omega
          · have := heq.out k h; omega
      obtain ⟨b1, o1, rfl, z1, q1⟩ := Vl.at HU.out (Ext.refl _) hlt
      obtain ⟨b2, o2, rfl, z2, q2⟩ := Vl.at HV.out (Ext.refl _) hlt
      try dsimp only at q1
      try dsimp only at q2
      obtain ⟨p, hp⟩ : ∃ p, p = x j := ⟨_, rfl⟩
      obtain ⟨q, hq⟩ : ∃ q, q = z j := ⟨_, rfl⟩
      rw [← hp] at q1 hle
      rw [← hq] at q2 hle
      have HPQ := Lib.hid (And.intro hp hq)
      have HLE := Lib.hid hle
      clear hp hq hle
      have hge : ¬ ((n : Int) ≤ (j : Int)) := by omega
      go_wp2_with fail
      have HCM := Lib.hid fun X => cmpI_any p q X HLE.out
      by_cases hpq : p < q
      · rw [if_pos hpq] at HCM
        refine (HCM.out _).mono ?_
        rintro e w1 ⟨rfl, rfl⟩
        go_wp2
        go_ret
        exact ⟨-1, rfl, by decide, rfl⟩
      · rw [if_neg hpq] at HCM
        refine (HCM.out _).mono ?_
        rintro e w1 ⟨rfl, rfl⟩
        have hst : ∀ t, t < j + 1 → x t = z t := fun t ht => by
          by_cases e : t = j
          · subst e
            have h1 := HPQ.out.1; have h2 := HPQ.out.2; have h3 := HLE.out; omega
          · exact heq.out t (by omega)
        have HST := Lib.hid hst
        clear hst hpq
        go_wp2
        go_roundw
        case rel => exact ⟨j + 1, by go_num, by omega, HST, trivial⟩
        case measure => simp [intOf] <;> omega
    · obtain rfl : j = n := by omega
      have hx9 : ¬ (j : Int) < (j : Int) := by omega
      go_wp2
      go_ret
      exact ⟨0, rfl, by decide, rfl⟩
end Go.Proofs.YtlachbodibajlaaDoor
namespace Go.Proofs.YtlachbodibajlaaDoor
open Go.RowKit

theorem grow_ge (c : Crs) (t x : Nat) : Sb t (c.grow t x) := fun j hj => by
  unfold Crs.grow
  split
  · rw [bit_or, hj]; rfl
  · exact hj
theorem grows_ge (c : Crs) : ∀ (L : List Nat) (t : Nat), Sb t (L.foldl c.grow t)
  | [], _ => fun _ h => h
  | x :: L, t => fun j hj => by rw [List.foldl_cons]; exact grows_ge c L _ j (grow_ge c t x j hj)
theorem grows_in {c : Crs} {s x : Nat} (hc : c.can s x = true) : ∀ (L : List Nat) (t : Nat), x ∈ L → Sb s t → (L.foldl c.grow t).testBit x = true
  | [], _, h, _ => by simp at h
  | y :: L, t, h, hs => by
    rw [List.foldl_cons]
    rcases List.mem_cons.1 h with rfl | h
    · refine grows_ge c L _ x ?_
      unfold Crs.grow
      cases hb : t.testBit x
      · rw [if_pos (can_mono hs hc hb)]
        exact bit_self t x
      · split
        · exact bit_self t x
        · exact hb
    · exact grows_in hc L _ h fun j hj => grow_ge c t y j (hs j hj)
/-- an order shows that there is one -/
theorem fol_rnds {c : Crs} : ∀ (o : List Nat) (s k : Nat), c.fol s o = true → Sb s (c.rnds k) → Sb (fin s o) (c.rnds (k + o.length))
  | [], s, k, _, h => h
  | x :: o, s, k, hf, h => by
    unfold Crs.fol at hf
    rw [Bool.and_eq_true, Bool.and_eq_true] at hf
    obtain ⟨⟨hx, hc⟩, hf⟩ := hf
    have h1 : Sb (s ||| 2 ^ x) (c.rnds (k + 1)) := fun j hj => by
      rw [bit_or, Bool.or_eq_true] at hj
      rcases hj with hj | hj
      · exact grows_ge c _ _ j (h j hj)
      · obtain rfl := of_decide_eq_true hj
        exact grows_in hc _ _ (List.mem_range.2 (of_decide_eq_true hx)) h
    have h2 := fol_rnds o (s ||| 2 ^ x) (k + 1) hf h1
    rw [List.length_cons, show k + (o.length + 1) = k + 1 + o.length by omega]
    exact h2
theorem has_of {c : Crs} {o : List Nat} (h : c.fol 0 o = true) (hl : o.length = c.n) (hr : c.rnds c.n < 2 ^ c.n) : c.has = true := by
  have h1 := fol_rnds o 0 0 h (fun j hj => by rw [Nat.zero_testBit] at hj; cases hj)
  rw [hl, Nat.zero_add, fol_all h hl] at h1
  exact decide_eq_true (all_only hr fun j hj => h1 j (by rw [all_bit, decide_eq_true hj]))
theorem okO_iff {c : Crs} {k : Nat} {x : Nat → Int} : c.okO k x = true ↔ k = c.n ∧ (∀ i, i < k → 0 ≤ x i ∧ x i ≤ (c.n : Int) - 1) ∧ c.fol 0 (ordL k x) = true := by
  unfold Crs.okO
  rw [Bool.and_eq_true, Bool.and_eq_true, decide_eq_true_iff, btw_iff, and_assoc]
/-- an order, and the first cheapest one beside it -/
theorem okO_best {c : Crs} (hn : 1 ≤ c.n) (he : ∀ i, i < c.n → c.en i = 0) (hr : c.rnds c.n < 2 ^ c.n) {k : Nat} {x : Nat → Int} (h : c.okO k x = true) :
    k = c.n ∧ c.has = true ∧ c.cst 0 0 c.best ≤ c.cst 0 0 (ordL k x) ∧ (c.cst 0 0 c.best = c.cst 0 0 (ordL k x) →
      (∀ i, i < c.n → ((c.best.getD i 0 : Nat) : Int) = x i) ∨ ∃ t, t < c.n ∧ (∀ i, i < t → ((c.best.getD i 0 : Nat) : Int) = x i) ∧ ((c.best.getD t 0 : Nat) : Int) < x t) := by
  obtain ⟨h1, h2, h3⟩ := okO_iff.1 h
  have hl := ordL_len k x
  have hh := has_of h3 (by omega) hr
  obtain ⟨b1, b2, b3⟩ := best_ok hh hn he
  have hlow := best_low hn he (pz_snd c) (by omega) h3
  refine ⟨h1, hh, by omega, fun heq => ?_⟩
  have hlx := best_first hh hn he (by omega) h3 heq.symm
  have hg : ∀ i, i < c.n → (((ordL k x).getD i 0 : Nat) : Int) = x i := fun i hi => by
    have h4 := (h2 i (by omega)).1
    unfold ordL
    rw [List.getD_eq_getElem?_getD, List.getElem?_map, List.getElem?_range (by omega)]
    simp
    omega
  rcases lx_at _ _ hlx (by omega) with h4 | ⟨t, h4, h5, h6⟩
  · left
    intro i hi
    rw [h4 i (by omega)]
    exact hg i hi
  · right
    refine ⟨t, by omega, fun i hi => ?_, ?_⟩
    · rw [h5 i hi]
      exact hg i (by omega)
    · have := hg t (by omega)
      omega
end Go.Proofs.YtlachbodibajlaaDoor
namespace Go.Proofs.YtlachbodibajlaaDoor
open Go.RowKit Go.Shelf

/-- the law's copy of a plan -/
def cutOk (n mc m : Nat) (st : Nat → Int) (ln : Nat → Nat) (y : Nat → Nat → Int) (a b : Nat → Int) : Bool := okPlan (min n 12) (min mc 12) (min m 42) st (fun i => min (ln i) 12) y a b
def cutC (n m : Nat) (st : Nat → Int) (y : Nat → Nat → Int) (a b : Nat → Int) : Crs := crs (min n 12) (min m 42) st y a b
theorem cutC_ok {n mc m : Nat} {st : Nat → Int} {ln : Nat → Nat} {y : Nat → Nat → Int} {a b : Nat → Int} (h : cutOk n mc m st ln y a b = true) : (cutC n m st y a b).ok ∧ (∀ i, (cutC n m st y a b).en i = 0) := ⟨(okPlan_iff.1 h).crs, fun _ => rfl⟩
theorem best_any_len {c : Crs} : c.best.length = c.n := grd_len _ _ _ _ _
theorem cost_best {c : Crs} (hh : c.has = true) (hn : 1 ≤ c.n) (he : ∀ i, i < c.n → c.en i = 0) : costV true c c.n (fun i => ((c.best.getD i 0 : Nat) : Int)) = c.cst 0 0 c.best ∧ costE true c c.n (fun i => ((c.best.getD i 0 : Nat) : Int)) = 0 := by
  obtain ⟨b1, b2, b3⟩ := best_ok hh hn he
  have h1 := okO_of b1 b2
  have h2 := ordL_get c.best
  rw [b1] at h2
  unfold costV costE
  rw [h1, h2]
  exact ⟨rfl, rfl⟩

set_option maxHeartbeats 8000000 in
set_option maxRecDepth 100000 in
theorem bathFirst_walk (S C B O : Value) (n mc m : Nat) (st : Nat → Int) (ln : Nat → Nat) (y : Nat → Nat → Int) (a b : Nat → Int) (q : Nat) (x : Nat → Int) (W : World) (h : Pv W S C B n mc m st ln y a b) (hO : Il W O q x) :
    Calls Tryd.prog 10 #[.agg #[S, C, B], O] W fun e W' => e = .returned (.bool true) ∧ Ext W W' := by
  have HV := Lib.hid h; have HO := Lib.hid hO
  have HOF := Lib.hid fun X hX => of_any S C B n mc m st ln y a b X hX
  have HBS := Lib.hid fun X S C B (hX : Pv X S C B (min n 12) (min mc 12) (min m 42) st (fun i => min (ln i) 12) y a b) => Best_any S C B _ _ _ st _ y a b X hX
  have HCS := Lib.hid fun X S C B O q x (hX : Pv X S C B (min n 12) (min mc 12) (min m 42) st (fun i => min (ln i) 12) y a b) (hO : Il X O q x) => Cost_any S C B O _ _ _ st _ y a b q x X hX hO
  obtain ⟨A, k, rfl, -⟩ := id h.vs
  obtain ⟨A2, k2, rfl, -⟩ := id h.vc
  obtain ⟨A3, k3, rfl, -⟩ := id h.vb
  obtain ⟨OA, ok, rfl, -⟩ := id hO
  have hck := @cutC_ok n mc m st ln y a b
  unfold cutOk cutC at hck
  obtain ⟨okb, hokb⟩ : ∃ t, t = okPlan (min n 12) (min mc 12) (min m 42) st (fun i => min (ln i) 12) y a b := ⟨_, rfl⟩
  obtain ⟨c, hc⟩ : ∃ t, t = crs (min n 12) (min m 42) st y a b := ⟨_, rfl⟩
  simp only [← hokb, ← hc] at HBS HCS hck
  have HCK := Lib.hid hck
  have e1 : Ext W (W.alloc (.cells #[.slice A n k, .slice A2 mc k2, .slice A3 m k3] 48)) := al1 W _
  have hbk := heap_alloc_new W (.cells #[.slice A n k, .slice A2 mc k2, .slice A3 m k3] 48)
  clear h hO hokb hc hck
  go_enter Tryd.func10, Tryd.ntmps10
  go_upto_region 1 with fail
  obtain ⟨s1, hs1⟩ : ∃ s, s = W.heap.size := ⟨_, rfl⟩
  rw [← hs1] at hbk ⊢
  generalize W.alloc (.cells #[.slice A n k, .slice A2 mc k2, .slice A3 m k3] 48) = W1 at *
  have HB := Lib.hid hbk
  have HX := Lib.hid (Ext.refl W1)
  have E1 := Lib.hid e1
  clear hbk hs1 e1
  cases hk : okb
  · subst hk
    have hcV : ∀ q x, costE false c q x = 2 := fun _ _ => rfl
    have hbE : bestE false c = 2 := rfl
    simp only [hcV, hbE] at HCS HBS
    have h20 : ((2 : Int) != 0) = true := rfl
    clear hcV hbE
    obtain ⟨c0, c1, c2, z0⟩ := three_c (ext_ty HX.out HB.out)
    go_wp2_with fail
    refine (HOF.out _ (HV.out.ext (E1.out.trans HX.out))).mono ?_
    rintro e w1 ⟨S1, C1, B1, rfl, hp, hx⟩
    replace HX := Lib.hid (HX.out.trans hx)
    have HP1 := Lib.hid hp
    clear hp hx c0 c1 c2 z0
    go_wp2_with fail
    refine (HBS.out _ _ _ _ HP1.out).mono ?_
    rintro e w1b ⟨U, rfl, hil, hx⟩
    replace HX := Lib.hid (HX.out.trans hx)
    have HIL := Lib.hid hil
    obtain ⟨UA, uc, rfl, -⟩ := id hil
    clear hil hx
    obtain ⟨c0, c1, c2, z0⟩ := three_c (ext_ty HX.out HB.out)
    go_wp2_with fail
    refine (HOF.out _ (HV.out.ext (E1.out.trans HX.out))).mono ?_
    rintro e w2 ⟨S2, C2, B2, rfl, hp, hx⟩
    replace HX := Lib.hid (HX.out.trans hx)
    have HP2 := Lib.hid hp
    clear hp hx c0 c1 c2 z0
    go_wp2_with fail
    refine (HCS.out _ _ _ _ _ _ _ HP2.out (HO.out.ext (E1.out.trans HX.out))).mono ?_
    rintro e w2c ⟨rfl, hx⟩
    replace HX := Lib.hid (HX.out.trans hx)
    clear hx
    go_wp2_with fail
    refine (awake_any _).mono ?_
    rintro e w9 ⟨rfl, hx⟩
    replace HX := Lib.hid (HX.out.trans hx); clear hx
    go_wp2
    go_ret
    exact ⟨rfl, E1.out.trans HX.out⟩
  subst hk
  obtain ⟨hcok, hen⟩ := HCK.out rfl
  have hn1 := hcok.n1
  have hrl := rnds_lt c c.n
  cases hh : c.has
  · have hoO : c.okO q x = false := by
      cases hv : c.okO q x
      · rfl
      · have := (okO_best hn1 (fun i _ => hen i) hrl hv).2.1
        rw [hh] at this; cases this
    have hcE : costE true c q x = 6 := by unfold costE; rw [hoO]; rfl
    have hbE : bestE true c = 7 := by unfold bestE; rw [hh]; rfl
    simp only [hbE] at HBS
    have HCE := Lib.hid hcE
    have h20 : ((7 : Int) != 0) = true := rfl
    have h27 : ((7 : Int) == 2) = false := rfl
    clear hcE hbE hoO hcok hen hrl hh
    obtain ⟨c0, c1, c2, z0⟩ := three_c (ext_ty HX.out HB.out)
    go_wp2_with fail
    refine (HOF.out _ (HV.out.ext (E1.out.trans HX.out))).mono ?_
    rintro e w1 ⟨S1, C1, B1, rfl, hp, hx⟩
    replace HX := Lib.hid (HX.out.trans hx)
    have HP1 := Lib.hid hp
    clear hp hx c0 c1 c2 z0
    go_wp2_with fail
    refine (HBS.out _ _ _ _ HP1.out).mono ?_
    rintro e w1b ⟨U, rfl, hil, hx⟩
    replace HX := Lib.hid (HX.out.trans hx)
    have HIL := Lib.hid hil
    obtain ⟨UA, uc, rfl, -⟩ := id hil
    clear hil hx
    obtain ⟨c0, c1, c2, z0⟩ := three_c (ext_ty HX.out HB.out)
    go_wp2_with fail
    refine (HOF.out _ (HV.out.ext (E1.out.trans HX.out))).mono ?_
    rintro e w2 ⟨S2, C2, B2, rfl, hp, hx⟩
    replace HX := Lib.hid (HX.out.trans hx)
    have HP2 := Lib.hid hp
    clear hp hx c0 c1 c2 z0
    go_wp2_with fail
    refine (HCS.out _ _ _ _ _ _ _ HP2.out (HO.out.ext (E1.out.trans HX.out))).mono ?_
    rintro e w2c ⟨rfl, hx⟩
    replace HX := Lib.hid (HX.out.trans hx)
    clear hx
    rw [HCE.out]
    go_wp2_with fail
    refine (awake_any _).mono ?_
    rintro e w9 ⟨rfl, hx⟩
    replace HX := Lib.hid (HX.out.trans hx); clear hx
    go_wp2
    go_ret
    exact ⟨rfl, E1.out.trans HX.out⟩
  have hbE : bestE true c = 0 := by unfold bestE; rw [hh]; rfl
  have hbN : bestN true c = c.n := by unfold bestN; rw [hh]; rfl
  simp only [hbE, hbN] at HBS
  have HCB := Lib.hid (cost_best hh hn1 (fun i _ => hen i))
  have h00 : ((0 : Int) != 0) = false := rfl
  obtain ⟨nb, hnb⟩ : ∃ v, v = c.cst 0 0 c.best := ⟨_, rfl⟩
  rw [← hnb] at HCB
  cases hoO : c.okO q x
  · have hcE : costE true c q x = 6 := by unfold costE; rw [hoO]; rfl
    have HCE := Lib.hid hcE
    have h60 : ((6 : Int) != 0) = true := rfl
    clear hbE hbN hcok hen hrl hh hnb hoO hcE
    obtain ⟨c0, c1, c2, z0⟩ := three_c (ext_ty HX.out HB.out)
    go_wp2_with fail
    refine (HOF.out _ (HV.out.ext (E1.out.trans HX.out))).mono ?_
    rintro e w1 ⟨S1, C1, B1, rfl, hp, hx⟩
    replace HX := Lib.hid (HX.out.trans hx)
    have HP1 := Lib.hid hp
    clear hp hx c0 c1 c2 z0
    go_wp2_with fail
    refine (HBS.out _ _ _ _ HP1.out).mono ?_
    rintro e w1b ⟨U, rfl, hil, hx⟩
    replace HX := Lib.hid (HX.out.trans hx)
    have HIL := Lib.hid hil
    obtain ⟨UA, uc, rfl, -⟩ := id hil
    clear hil hx
    have HY := Lib.hid (Ext.refl w1b)
    obtain ⟨c0, c1, c2, z0⟩ := three_c (ext_ty HX.out HB.out)
    go_wp2_with fail
    refine (HOF.out _ (HV.out.ext (E1.out.trans HX.out))).mono ?_
    rintro e w2 ⟨S2, C2, B2, rfl, hp, hx⟩
    replace HX := Lib.hid (HX.out.trans hx)
    replace HY := Lib.hid (HY.out.trans hx)
    have HP2 := Lib.hid hp
    clear hp hx c0 c1 c2 z0
    go_wp2_with fail
    refine (HCS.out _ _ _ _ _ _ _ HP2.out (HO.out.ext (E1.out.trans HX.out))).mono ?_
    rintro e w2c ⟨rfl, hx⟩
    replace HX := Lib.hid (HX.out.trans hx)
    replace HY := Lib.hid (HY.out.trans hx)
    clear hx
    rw [HCE.out]
    obtain ⟨c0, c1, c2, z0⟩ := three_c (ext_ty HX.out HB.out)
    go_wp2_with fail
    refine (HOF.out _ (HV.out.ext (E1.out.trans HX.out))).mono ?_
    rintro e w3 ⟨S3, C3, B3, rfl, hp, hx⟩
    replace HX := Lib.hid (HX.out.trans hx)
    replace HY := Lib.hid (HY.out.trans hx)
    have HP3 := Lib.hid hp
    clear hp hx c0 c1 c2 z0
    go_wp2_with fail
    refine (HCS.out _ _ _ _ _ _ _ HP3.out (HIL.out.ext HY.out)).mono ?_
    rintro e w3c ⟨rfl, hx⟩
    replace HX := Lib.hid (HX.out.trans hx)
    replace HY := Lib.hid (HY.out.trans hx)
    rw [HCB.out.1, HCB.out.2]
    clear hx
    go_wp2_with fail
    refine (awake_any _).mono ?_
    rintro e w9 ⟨rfl, hx⟩
    replace HX := Lib.hid (HX.out.trans hx); clear hx
    go_wp2
    go_ret
    exact ⟨rfl, E1.out.trans HX.out⟩
  have hcE : costE true c q x = 0 := by unfold costE; rw [hoO]; rfl
  have hcV : costV true c q x = c.cst 0 0 (ordL q x) := by unfold costV; rw [hoO]; rfl
  obtain ⟨hqn, -, hle, hcm⟩ := okO_best hn1 (fun i _ => hen i) hrl hoO
  obtain ⟨mb, hmb⟩ : ∃ v, v = c.cst 0 0 (ordL q x) := ⟨_, rfl⟩
  rw [← hmb] at hcV hle hcm
  rw [← hnb] at hle hcm
  have HCE := Lib.hid hcE
  have HCV := Lib.hid hcV
  have HQN := Lib.hid hqn
  clear hbE hbN hcok hen hrl hh hnb hoO hcE hcV hmb hqn
  by_cases hlt : nb < mb
  · clear hle hcm
    obtain ⟨c0, c1, c2, z0⟩ := three_c (ext_ty HX.out HB.out)
    go_wp2_with fail
    refine (HOF.out _ (HV.out.ext (E1.out.trans HX.out))).mono ?_
    rintro e w1 ⟨S1, C1, B1, rfl, hp, hx⟩
    replace HX := Lib.hid (HX.out.trans hx)
    have HP1 := Lib.hid hp
    clear hp hx c0 c1 c2 z0
    go_wp2_with fail
    refine (HBS.out _ _ _ _ HP1.out).mono ?_
    rintro e w1b ⟨U, rfl, hil, hx⟩
    replace HX := Lib.hid (HX.out.trans hx)
    have HIL := Lib.hid hil
    obtain ⟨UA, uc, rfl, -⟩ := id hil
    clear hil hx
    have HY := Lib.hid (Ext.refl w1b)
    obtain ⟨c0, c1, c2, z0⟩ := three_c (ext_ty HX.out HB.out)
    go_wp2_with fail
    refine (HOF.out _ (HV.out.ext (E1.out.trans HX.out))).mono ?_
    rintro e w2 ⟨S2, C2, B2, rfl, hp, hx⟩
    replace HX := Lib.hid (HX.out.trans hx)
    replace HY := Lib.hid (HY.out.trans hx)
    have HP2 := Lib.hid hp
    clear hp hx c0 c1 c2 z0
    go_wp2_with fail
    refine (HCS.out _ _ _ _ _ _ _ HP2.out (HO.out.ext (E1.out.trans HX.out))).mono ?_
    rintro e w2c ⟨rfl, hx⟩
    replace HX := Lib.hid (HX.out.trans hx)
    replace HY := Lib.hid (HY.out.trans hx)
    clear hx
    rw [HCE.out]
    rw [HCV.out]
    obtain ⟨c0, c1, c2, z0⟩ := three_c (ext_ty HX.out HB.out)
    go_wp2_with fail
    refine (HOF.out _ (HV.out.ext (E1.out.trans HX.out))).mono ?_
    rintro e w3 ⟨S3, C3, B3, rfl, hp, hx⟩
    replace HX := Lib.hid (HX.out.trans hx)
    replace HY := Lib.hid (HY.out.trans hx)
    have HP3 := Lib.hid hp
    clear hp hx c0 c1 c2 z0
    go_wp2_with fail
    refine (HCS.out _ _ _ _ _ _ _ HP3.out (HIL.out.ext HY.out)).mono ?_
    rintro e w3c ⟨rfl, hx⟩
    replace HX := Lib.hid (HX.out.trans hx)
    replace HY := Lib.hid (HY.out.trans hx)
    rw [HCB.out.1, HCB.out.2]
    clear hx
    go_wp2_with fail
    refine (awake_any _).mono ?_
    rintro e w9 ⟨rfl, hx⟩
    replace HX := Lib.hid (HX.out.trans hx); clear hx
    go_wp2
    go_ret
    exact ⟨rfl, E1.out.trans HX.out⟩
  · obtain rfl : mb = nb := by omega
    have HCM := Lib.hid (hcm rfl)
    clear hle hcm
    obtain ⟨c0, c1, c2, z0⟩ := three_c (ext_ty HX.out HB.out)
    go_wp2_with fail
    refine (HOF.out _ (HV.out.ext (E1.out.trans HX.out))).mono ?_
    rintro e w1 ⟨S1, C1, B1, rfl, hp, hx⟩
    replace HX := Lib.hid (HX.out.trans hx)
    have HP1 := Lib.hid hp
    clear hp hx c0 c1 c2 z0
    go_wp2_with fail
    refine (HBS.out _ _ _ _ HP1.out).mono ?_
    rintro e w1b ⟨U, rfl, hil, hx⟩
    replace HX := Lib.hid (HX.out.trans hx)
    have HIL := Lib.hid hil
    obtain ⟨UA, uc, rfl, -⟩ := id hil
    clear hil hx
    have HY := Lib.hid (Ext.refl w1b)
    obtain ⟨c0, c1, c2, z0⟩ := three_c (ext_ty HX.out HB.out)
    go_wp2_with fail
    refine (HOF.out _ (HV.out.ext (E1.out.trans HX.out))).mono ?_
    rintro e w2 ⟨S2, C2, B2, rfl, hp, hx⟩
    replace HX := Lib.hid (HX.out.trans hx)
    replace HY := Lib.hid (HY.out.trans hx)
    have HP2 := Lib.hid hp
    clear hp hx c0 c1 c2 z0
    go_wp2_with fail
    refine (HCS.out _ _ _ _ _ _ _ HP2.out (HO.out.ext (E1.out.trans HX.out))).mono ?_
    rintro e w2c ⟨rfl, hx⟩
    replace HX := Lib.hid (HX.out.trans hx)
    replace HY := Lib.hid (HY.out.trans hx)
    clear hx
    rw [HCE.out]
    rw [HCV.out]
    obtain ⟨c0, c1, c2, z0⟩ := three_c (ext_ty HX.out HB.out)
    go_wp2_with fail
    refine (HOF.out _ (HV.out.ext (E1.out.trans HX.out))).mono ?_
    rintro e w3 ⟨S3, C3, B3, rfl, hp, hx⟩
    replace HX := Lib.hid (HX.out.trans hx)
    replace HY := Lib.hid (HY.out.trans hx)
    have HP3 := Lib.hid hp
    clear hp hx c0 c1 c2 z0
    go_wp2_with fail
    refine (HCS.out _ _ _ _ _ _ _ HP3.out (HIL.out.ext HY.out)).mono ?_
    rintro e w3c ⟨rfl, hx⟩
    replace HX := Lib.hid (HX.out.trans hx)
    replace HY := Lib.hid (HY.out.trans hx)
    rw [HCB.out.1, HCB.out.2]
    clear hx
    go_wp2_with fail
    have hO9 : Il w3c (.slice OA q ok) c.n x := by rw [← HQN.out]; exact HO.out.ext (E1.out.trans HX.out)
    refine (compare_any c.n _ x _ _ _ (HIL.out.ext HY.out) hO9 HCM.out).mono ?_
    rintro e w3d ⟨r, rfl, hr0, rfl⟩
    clear hO9
    go_wp2_with fail
    refine (awake_any _).mono ?_
    rintro e w9 ⟨rfl, hx⟩
    replace HX := Lib.hid (HX.out.trans hx); clear hx
    go_wp2
    go_ret
    exact ⟨rfl, E1.out.trans HX.out⟩
end Go.Proofs.YtlachbodibajlaaDoor
namespace Go.Proofs.YtlachbodibajlaaDoor
open Go.RowKit Go.Shelf

set_option maxHeartbeats 4000000 in
set_option maxRecDepth 100000 in
theorem cheap_any (n : Nat) (x : Nat → Int) (V : Value) (W : World) (hV : Il W V n x) :
    Calls Tryd.prog 86 #[V] W fun e W' => e = .returned (.bool (btw x 0 1000 n)) ∧ W' = W := by
  have HV := Lib.hid hV
  obtain ⟨A, c, rfl, hac, hcm, -⟩ := hV
  go_enter Tryd.func86, Tryd.ntmps86
  go_wp2_with fail
  go_loopw [7] (fun i wr => ∃ k : Nat, i = .int .i64 k ∧ k ≤ n ∧ btw x 0 1000 k = true ∧ wr = W) (fun i _ => n - (intOf i).toNat)
  case atStart => exact ⟨0, rfl, Nat.zero_le _, rfl, rfl⟩
  case round =>
    obtain ⟨k, rfl, hk, hall, rfl⟩ := hrel
    by_cases hlt : k < n
    · obtain ⟨b1, o1, rfl, -, e1⟩ := Vl.at HV.out (Ext.refl _) hlt
      have hsu := btw_succ x 0 1000 k
      have hno := fun h => btw_no (x := x) (lo := 0) (hi := 1000) hlt h
      rw [hall, Bool.true_and] at hsu
      obtain ⟨z, hz⟩ : ∃ z, z = x k := ⟨_, rfl⟩
      rw [← hz] at e1 hsu hno
      have HSU := Lib.hid hsu; have HNO := Lib.hid hno
      clear hsu hno hz hall
      by_cases h1 : z < 0
      · go_wp2
        go_ret
        exact ⟨by rw [HNO.out (by omega)]; rfl, rfl⟩
      · by_cases h2 : 1000 < z
        · go_wp2
          go_ret
          exact ⟨by rw [HNO.out (by omega)]; rfl, rfl⟩
        · go_wp2
          go_roundw
          case rel => exact ⟨k + 1, by go_num, by omega, by rw [HSU.out]; exact decide_eq_true ⟨by omega, by omega⟩, trivial⟩
          case measure => simp [intOf]; omega
    · obtain rfl : k = n := by omega
      go_wp2
      go_ret
      exact ⟨by rw [hall]; rfl, rfl⟩

theorem ext_ty' {w w' : World} (e : Ext w w') {g : Nat} {o : Obj} (h : w.heap[g]? = some o) : w'.heap[g]? = some o := (e.block g (Array.getElem?_eq_some_iff.1 h).1).trans h

set_option maxHeartbeats 8000000 in
set_option maxRecDepth 100000 in
theorem validR_any (S C B : Value) (n mc m : Nat) (st : Nat → Int) (ln : Nat → Nat) (y : Nat → Nat → Int) (a b : Nat → Int) (W : World) (h : Pv W S C B n mc m st ln y a b) :
    Calls Tryd.prog 41 #[.agg #[S, C, B]] W fun e W' => e = .returned (.bool (okPlan n mc m st ln y a b)) ∧ Ext W W' := by
  obtain ⟨r, hr⟩ : ∃ r, r = okPlan n mc m st ln y a b := ⟨_, rfl⟩
  rw [← hr]
  have HR := Lib.hid hr
  have HV := Lib.hid h
  obtain ⟨A, k, rfl, hk1, hk2, -⟩ := id h.vs
  obtain ⟨A2, k2, rfl, hk3, hk4, hrow⟩ := id h.vc
  obtain ⟨A3, k3, rfl, hk5, hk6, hpr⟩ := id h.vb
  have HROW := Lib.hid hrow; have HPR := Lib.hid hpr; have HLN := Lib.hid h.bl
  have E1 : Hid (Ext W (W.alloc (.cells #[.slice A n k, .slice A2 mc k2, .slice A3 m k3] 48))) := Lib.hid (al1 W _)
  have hbk := heap_alloc_new W (.cells #[.slice A n k, .slice A2 mc k2, .slice A3 m k3] 48)
  have hbc := h.bc; have hbb := h.bb; have hbn := h.bn
  clear h hr hrow hpr
  by_cases h1 : (n : Int) < 1
  · have hr0 : r = false := by rw [HR.out]; exact okPlan_no fun h => by have h9 := h.n1; omega
    clear HROW HPR
    subst hr0
    go_enter Tryd.func41, Tryd.ntmps41
    go_wp2
    go_ret
    exact ⟨rfl, E1.out⟩
  by_cases h2 : (10 : Int) < (n : Int)
  · have hr0 : r = false := by rw [HR.out]; exact okPlan_no fun h => by have h9 := h.n10; omega
    clear HROW HPR
    subst hr0
    go_enter Tryd.func41, Tryd.ntmps41
    go_wp2
    go_ret
    exact ⟨rfl, E1.out⟩
  by_cases h3 : mc = n
  case neg =>
    have h3a : ¬ ((mc : Int) = (n : Int)) := by omega
    have hr0 : r = false := by rw [HR.out]; exact okPlan_no fun h => by have h9 := h.mn; omega
    clear HROW HPR h3
    subst hr0
    go_enter Tryd.func41, Tryd.ntmps41
    go_wp2
    go_ret
    exact ⟨rfl, E1.out⟩
  subst h3
  by_cases h4 : (40 : Int) < (m : Int)
  · have hr0 : r = false := by rw [HR.out]; exact okPlan_no fun h => by have h9 := h.m40; omega
    clear HROW HPR
    subst hr0
    go_enter Tryd.func41, Tryd.ntmps41
    go_wp2
    go_ret
    exact ⟨rfl, E1.out⟩
  go_enter Tryd.func41, Tryd.ntmps41
  go_upto_region 1 with fail
  obtain ⟨s1, hs1⟩ : ∃ s, s = W.heap.size := ⟨_, rfl⟩
  rw [← hs1] at hbk ⊢
  generalize W.alloc (.cells #[.slice A mc k, .slice A2 mc k2, .slice A3 m k3] 48) = W1 at *
  obtain ⟨c0, c1, c2, z0⟩ := three_c hbk
  have HB := Lib.hid hbk
  clear hbk hs1
  go_wp2_with fail
  refine (cheap_any mc st _ _ (HV.out.vs.ext E1.out)).mono ?_
  rintro e w1 ⟨rfl, rfl⟩
  cases hb : btw st 0 1000 mc
  · have hr0 : r = false := by
      rw [HR.out]; refine okPlan_no fun h => ?_
      rw [btw_iff.2 h.st] at hb; cases hb
    clear HROW HPR hb
    subst hr0
    go_wp2
    go_ret
    exact ⟨rfl, E1.out⟩
  have HBT := Lib.hid (btw_iff.1 hb)
  clear hb
  go_wp2_with fail
  go_loopw [39] (fun i wr => ∃ j : Nat, i = .int .i64 j ∧ j ≤ mc ∧ Hid (∀ t, t < j → ln t = mc ∧ ∀ j', j' < mc → 0 ≤ y t j' ∧ y t j' ≤ 1000) ∧ wr = w1) (fun i _ => mc - (intOf i).toNat)
  case atStart => exact ⟨0, rfl, Nat.zero_le _, Lib.hid (fun t ht => absurd ht (Nat.not_lt_zero _)), rfl⟩
  case round =>
    obtain ⟨j, rfl, hj, hall, rfl⟩ := hrel
    by_cases hlt : j < mc
    · obtain ⟨rb, ro, rfl, zb, hrr⟩ := HROW.out (by omega)
      obtain ⟨R, hR, hRl⟩ := hrr j hlt
      have HRL := Lib.hid hRl
      obtain ⟨RA, rc, rfl, hr1, hr2, -⟩ := id hRl
      replace hR := E1.out.at zb hR
      replace zb := Nat.lt_of_lt_of_le zb E1.out.size
      obtain ⟨ra, hra⟩ : ∃ t, t = ln j := ⟨_, rfl⟩
      have hra9 := HLN.out j hlt
      rw [← hra] at hR hr1 hra9 HRL
      have HRA := Lib.hid hra
      clear hrr hRl hra
      by_cases hrn : ra = mc
      · subst hrn
        go_wp2_with fail
        refine (cheap_any ra (y j) _ _ (HRL.out.ext E1.out)).mono ?_
        rintro e w2 ⟨rfl, rfl⟩
        cases hb : btw (y j) 0 1000 ra
        · have hr0 : r = false := by
            rw [HR.out]; refine okPlan_no fun h => ?_
            rw [btw_iff.2 (fun i hi => h.ch j i hlt hi)] at hb; cases hb
          clear HROW HPR hb
          subst hr0
          go_wp2
          go_ret
          exact ⟨rfl, E1.out⟩
        · have hst : ∀ t, t < j + 1 → ln t = ra ∧ ∀ j', j' < ra → 0 ≤ y t j' ∧ y t j' ≤ 1000 := fun t ht => by
            by_cases e : t = j
            · subst e; exact ⟨HRA.out.symm, btw_iff.1 hb⟩
            · exact hall.out t (by omega)
          have HST := Lib.hid hst
          clear hst hb
          go_wp2
          go_roundw
          case rel => exact ⟨j + 1, by go_num, by omega, HST, trivial⟩
          case measure => simp [intOf] <;> omega
      · have h3a : ¬ ((ra : Int) = (mc : Int)) := by omega
        have hr0 : r = false := by rw [HR.out]; exact okPlan_no fun h => by have h9 := h.ln j hlt; have h8 := HRA.out; omega
        clear HROW HPR hrn
        subst hr0
        go_wp2
        go_ret
        exact ⟨rfl, E1.out⟩
    · obtain rfl : j = mc := by omega
      have hx9 : ¬ (j : Int) < (j : Int) := by omega
      have HALL := Lib.hid hall.out
      have hin0 := Lib.hid (Ext.refl wr)
      obtain ⟨w1, hw1⟩ : ∃ w, w = wr := ⟨_, rfl⟩
      subst hw1
      clear hall HROW
      go_wp2_with fail
      go_loopw [7, 56] (fun _ i wz => ∃ t : Nat, i = .int .i64 t ∧ t ≤ m ∧ Hid (∀ i', i' < t → 0 ≤ a i' ∧ a i' < j ∧ 0 ≤ b i' ∧ b i' < j ∧ a i' ≠ b i') ∧ Hid (Ext w1 wz)) (fun _ i _ => m - (intOf i).toNat)
      case atStart => exact ⟨0, rfl, Nat.zero_le _, Lib.hid (fun t ht => absurd ht (Nat.not_lt_zero _)), hin0⟩
      case round =>
        clear hin0 c0 c1 c2 z0
        obtain ⟨t, rfl, ht, hpp, hin⟩ := hrel
        obtain ⟨c0, c1, c2, z0⟩ := three_c (ext_ty' hin.out HB.out)
        by_cases hlt2 : t < m
        · obtain ⟨pg, po, rfl, zg, hcell⟩ := HPR.out (by omega)
          obtain ⟨q1, q2⟩ := hcell t hlt2
          replace q1 := (E1.out.trans hin.out).at zg q1
          replace q2 := (E1.out.trans hin.out).at zg q2
          have zg2 := Nat.lt_of_lt_of_le zg (E1.out.trans hin.out).size
          have hneed : r = true → 0 ≤ a t ∧ a t < j ∧ 0 ≤ b t ∧ b t < j ∧ a t ≠ b t := fun hr => by
            rw [HR.out] at hr
            exact (okPlan_iff.1 hr).pr t hlt2
          obtain ⟨p, hp⟩ : ∃ p, p = a t := ⟨_, rfl⟩
          obtain ⟨q, hq⟩ : ∃ q, q = b t := ⟨_, rfl⟩
          rw [← hp, ← hq] at hneed
          rw [← hp] at q1
          rw [← hq] at q2
          have HPQ := Lib.hid (And.intro hp hq)
          have hno : ¬ (0 ≤ p ∧ p < j ∧ 0 ≤ q ∧ q < j ∧ p ≠ q) → r = false := fun h => by
            cases hv : r
            · rfl
            · exact absurd (hneed hv) h
          have HNO := Lib.hid hno
          clear hcell hp hq zg hneed hno
          go_upto_region 13 with fail
          have e4 : Ext wr (wr.alloc (.cells #[.int .i64 p, .int .i64 q] 60)) := al1 wr _
          have hb4 := heap_alloc_new wr (.cells #[.int .i64 p, .int .i64 q] 60)
          obtain ⟨p4, hp4⟩ : ∃ t, t = wr.heap.size := ⟨_, rfl⟩
          rw [← hp4] at hb4 ⊢
          generalize wr.alloc (.cells #[.int .i64 p, .int .i64 q] 60) = w4 at *
          obtain ⟨d0, d1, dz, -⟩ := two_c hb4
          have hin2 := Lib.hid (hin.out.trans e4)
          clear e4 hb4 hp4 hin c0 c1 c2 z0 q1 q2 zg2
          have HEND : r = false → Hid (r = false) := fun h => Lib.hid h
          by_cases g0 : p < 0
          · have hr0 : r = false := HNO.out (by omega)
            subst hr0
            go_wp2
            go_ret
            exact ⟨rfl, E1.out.trans hin2.out⟩
          by_cases g1 : (j : Int) ≤ p
          · have hr0 : r = false := HNO.out (by omega)
            subst hr0
            go_wp2
            go_ret
            exact ⟨rfl, E1.out.trans hin2.out⟩
          by_cases g2 : q < 0
          · have hr0 : r = false := HNO.out (by omega)
            subst hr0
            go_wp2
            go_ret
            exact ⟨rfl, E1.out.trans hin2.out⟩
          by_cases g3 : (j : Int) ≤ q
          · have hr0 : r = false := HNO.out (by omega)
            subst hr0
            go_wp2
            go_ret
            exact ⟨rfl, E1.out.trans hin2.out⟩
          by_cases g4 : p = q
          · have hr0 : r = false := HNO.out (fun h => h.2.2.2.2 g4)
            subst hr0
            subst g4
            go_wp2
            go_ret
            exact ⟨rfl, E1.out.trans hin2.out⟩
          have hst : ∀ i', i' < t + 1 → 0 ≤ a i' ∧ a i' < j ∧ 0 ≤ b i' ∧ b i' < j ∧ a i' ≠ b i' := fun i hi => by
            by_cases e : i = t
            · subst e
              rw [← HPQ.out.1, ← HPQ.out.2]
              exact ⟨by omega, by omega, by omega, by omega, g4⟩
            · exact hpp.out i (by omega)
          have HST := Lib.hid hst
          clear hst
          go_wp2
          go_roundw
          case rel => exact ⟨t + 1, by go_num, by omega, HST, hin2⟩
          case measure => simp [intOf] <;> omega
        · obtain rfl : t = m := by omega
          have hx8 : ¬ (t : Int) < (t : Int) := by omega
          have hr1 : r = true := by
            rw [HR.out]
            exact okPlan_iff.2 ⟨by omega, by omega, by omega, HBT.out, rfl, fun i hi => (HALL.out i hi).1, fun i i' hi hi' => (HALL.out i hi).2 i' hi', hpp.out⟩
          subst hr1
          go_wp2
          go_ret
          exact ⟨rfl, E1.out.trans hin.out⟩
end Go.Proofs.YtlachbodibajlaaDoor
