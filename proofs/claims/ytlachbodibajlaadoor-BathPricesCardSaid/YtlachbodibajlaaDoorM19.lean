/- Orders as mathematics: what has leaves a bath that can follow; the first cheapest bath; sound tables; orders bath by bath. · Plans as mathematics: the course of a plan, valid plans, the cut. · Orders as mathematics, as the reference finds them; soundness of a table both ways. -/
import Derived.Test.YtlachbodibajlaaDoorM18
namespace Go.Proofs.YtlachbodibajlaaDoor
open Go.RowKit

/-- all of t's are s's -/
def Sb (t s : Nat) : Prop := ∀ j, t.testBit j = true → s.testBit j = true
theorem bit_or (s x j : Nat) : (s ||| 2 ^ x).testBit j = (s.testBit j || decide (x = j)) := by
  rw [Nat.testBit_or, Nat.testBit_two_pow]
theorem all_bit (c : Crs) (j : Nat) : c.all.testBit j = decide (j < c.n) := by
  unfold Crs.all
  rw [Nat.testBit_two_pow_sub_one]
theorem big_bit {s n j : Nat} (h : s < 2 ^ n) (hj : n ≤ j) : s.testBit j = false :=
  Nat.testBit_lt_two_pow (Nat.lt_of_lt_of_le h (Nat.pow_le_pow_right (by omega) hj))
theorem all_only {c : Crs} {s : Nat} (h : s < 2 ^ c.n) (hb : ∀ j, j < c.n → s.testBit j = true) : s = c.all := by
  refine Nat.eq_of_testBit_eq fun j => ?_
  rw [all_bit]
  by_cases hj : j < c.n
  · rw [hb j hj, decide_eq_true hj]
  · rw [big_bit h (by omega), decide_eq_false hj]
theorem all_lt (c : Crs) : c.all < 2 ^ c.n := by
  have := Nat.two_pow_pos c.n
  unfold Crs.all; omega
theorem can_all {c : Crs} {x : Nat} (hx : x < c.n) : c.can c.all x = false := by
  unfold Crs.can
  rw [all_bit, decide_eq_true hx]; rfl
theorem can_mono {c : Crs} {t s x : Nat} (h : Sb t s) (hc : c.can t x = true) (hs : s.testBit x = false) : c.can s x = true := by
  unfold Crs.can at hc ⊢
  rw [Bool.and_eq_true] at hc
  rw [hs, Bool.not_false, Bool.true_and, sub_iff]
  exact fun j hj hb => h j (sub_iff.1 hc.2 j hj hb)
theorem grow_sb {c : Crs} {t s x : Nat} (h : Sb t s) (hno : c.can s x = false) : Sb (c.grow t x) s := by
  unfold Crs.grow
  split
  · rename_i hc
    intro j hj
    rw [bit_or, Bool.or_eq_true] at hj
    rcases hj with hj | hj
    · exact h j hj
    · obtain rfl := of_decide_eq_true hj
      cases hs : s.testBit x
      · rw [can_mono h hc hs] at hno; cases hno
      · rfl
  · exact h
theorem grows_sb {c : Crs} {s : Nat} : ∀ (L : List Nat) (t : Nat), (∀ x ∈ L, c.can s x = false) → Sb t s → Sb (L.foldl c.grow t) s
  | [], _, _, h => h
  | x :: L, t, hL, h => by rw [List.foldl_cons]; exact grows_sb L _ (fun y hy => hL y (by simp [hy])) (grow_sb h (hL x (by simp)))
theorem rnds_sb {c : Crs} {s : Nat} (hno : ∀ x, x < c.n → c.can s x = false) : ∀ k, Sb (c.rnds k) s
  | 0 => fun j hj => by unfold Crs.rnds at hj; rw [Nat.zero_testBit] at hj; cases hj
  | k + 1 => grows_sb _ _ (fun x hx => hno x (List.mem_range.1 hx)) (rnds_sb hno k)
/-- if there is an order, each set but all leaves a bath that can follow -/
theorem has_next {c : Crs} {s : Nat} (hh : c.has = true) (hs : s < 2 ^ c.n) (ha : s ≠ c.all) : ∃ x, x < c.n ∧ c.can s x = true := by
  rcases Classical.em (∃ x, x < c.n ∧ c.can s x = true) with h | h
  · exact h
  · exfalso
    have hno : ∀ x, x < c.n → c.can s x = false := fun x hx => by
      cases hc : c.can s x
      · rfl
      · exact absurd ⟨x, hx, hc⟩ h
    have h1 := rnds_sb hno c.n
    have h2 : c.rnds c.n = c.all := of_decide_eq_true hh
    rw [h2] at h1
    exact ha (all_only hs fun j hj => h1 j (by rw [all_bit, decide_eq_true hj]))

/-- what a bath costs, and what is left then -/
def Crs.val (c : Crs) (pr : Nat → Int) (s l x : Nat) : Int := c.stp s l x + pr (c.n * (s ||| 2 ^ x) + x)
theorem chp_pre (c : Crs) (pr : Nat → Int) (s l : Nat) : ∀ m, ((List.range m).foldl (c.ck pr s l) (-1, 0) = (-1, 0) ∧ ∀ x, x < m → c.can s x = false) ∨
    ∃ y, y < m ∧ c.can s y = true ∧ (List.range m).foldl (c.ck pr s l) (-1, 0) = ((y : Int), c.val pr s l y) ∧ ∀ x, x < m → c.can s x = true → c.val pr s l y ≤ c.val pr s l x ∧ (x < y → c.val pr s l y < c.val pr s l x)
  | 0 => Or.inl ⟨rfl, fun x hx => absurd hx (Nat.not_lt_zero x)⟩
  | m + 1 => by
    have hst : (List.range (m + 1)).foldl (c.ck pr s l) (-1, 0) = c.ck pr s l ((List.range m).foldl (c.ck pr s l) (-1, 0)) m := by
      rw [List.range_succ, List.foldl_append]; rfl
    rw [hst]
    have hck : ∀ b : Int × Int, c.ck pr s l b m = if c.can s m = true then (if b.1 < 0 ∨ c.val pr s l m < b.2 then ((m : Int), c.val pr s l m) else b) else b := fun b => rfl
    rw [hck]
    rcases chp_pre c pr s l m with ⟨h1, h2⟩ | ⟨y, h1, h2, h3, h4⟩
    · rw [h1]
      cases hc : c.can s m
      · left
        refine ⟨rfl, fun x hx => ?_⟩
        rcases Nat.lt_succ_iff_lt_or_eq.1 hx with h | rfl
        · exact h2 x h
        · exact hc
      · right
        refine ⟨m, by omega, hc, by rw [if_pos rfl, if_pos (Or.inl (by decide))], fun x hx hcx => ?_⟩
        rcases Nat.lt_succ_iff_lt_or_eq.1 hx with h | rfl
        · rw [h2 x h] at hcx; cases hcx
        · exact ⟨Int.le_refl _, fun h => absurd h (Nat.lt_irrefl _)⟩
    · rw [h3]
      right
      cases hc : c.can s m
      · refine ⟨y, by omega, h2, rfl, fun x hx hcx => ?_⟩
        rcases Nat.lt_succ_iff_lt_or_eq.1 hx with h | rfl
        · exact h4 x h hcx
        · rw [hc] at hcx; cases hcx
      · rw [if_pos rfl]
        by_cases hv : c.val pr s l m < c.val pr s l y
        · refine ⟨m, by omega, hc, by rw [if_pos (Or.inr hv)], fun x hx hcx => ?_⟩
          rcases Nat.lt_succ_iff_lt_or_eq.1 hx with h | rfl
          · have := h4 x h hcx
            exact ⟨by omega, fun _ => by omega⟩
          · exact ⟨Int.le_refl _, fun h => absurd h (Nat.lt_irrefl _)⟩
        · refine ⟨y, by omega, h2, by rw [if_neg (fun h => h.elim (fun h => by dsimp only at h; omega) hv)], fun x hx hcx => ?_⟩
          rcases Nat.lt_succ_iff_lt_or_eq.1 hx with h | rfl
          · exact h4 x h hcx
          · exact ⟨by omega, fun h => by omega⟩
theorem chp_none {c : Crs} {pr : Nat → Int} {s l : Nat} (h : ∀ x, x < c.n → c.can s x = false) : c.chp pr s l = (-1, 0) := by
  rcases chp_pre c pr s l c.n with ⟨h1, -⟩ | ⟨y, h1, h2, -, -⟩
  · exact h1
  · rw [h y h1] at h2; cases h2
theorem chp_first {c : Crs} {pr : Nat → Int} {s l : Nat} (h : ∃ x, x < c.n ∧ c.can s x = true) :
    ∃ y, y < c.n ∧ c.can s y = true ∧ c.chp pr s l = ((y : Int), c.val pr s l y) ∧ ∀ x, x < c.n → c.can s x = true → c.val pr s l y ≤ c.val pr s l x ∧ (x < y → c.val pr s l y < c.val pr s l x) := by
  rcases chp_pre c pr s l c.n with ⟨-, h2⟩ | h1
  · obtain ⟨x, hx, hc⟩ := h
    rw [h2 x hx] at hc; cases hc
  · exact h1

/-- a list of baths, added one by one -/
def Crs.fol (c : Crs) : Nat → List Nat → Bool
  | _, [] => true
  | s, x :: o => (decide (x < c.n) && c.can s x) && c.fol (s ||| 2 ^ x) o
def fin : Nat → List Nat → Nat
  | s, [] => s
  | s, x :: o => fin (s ||| 2 ^ x) o
def Crs.cst (c : Crs) : Nat → Nat → List Nat → Int
  | _, _, [] => 0
  | s, l, x :: o => c.stp s l x + c.cst (s ||| 2 ^ x) x o
def lst : Nat → List Nat → Nat
  | l, [] => l
  | _, x :: o => lst x o
theorem fol_snoc (c : Crs) : ∀ (o : List Nat) (s x : Nat), c.fol s (o ++ [x]) = (c.fol s o && (decide (x < c.n) && c.can (fin s o) x))
  | [], s, x => by simp [Crs.fol, fin]
  | y :: o, s, x => by rw [List.cons_append, Crs.fol, fol_snoc c o, Crs.fol, fin, Bool.and_assoc, Bool.and_assoc, Bool.and_assoc]
theorem fin_snoc : ∀ (o : List Nat) (s x : Nat), fin s (o ++ [x]) = fin s o ||| 2 ^ x
  | [], _, _ => rfl
  | y :: o, s, x => by rw [List.cons_append, fin, fin_snoc o, fin]
theorem lst_snoc : ∀ (o : List Nat) (l x : Nat), lst l (o ++ [x]) = x
  | [], _, _ => rfl
  | y :: o, l, x => by rw [List.cons_append, lst, lst_snoc o]
theorem cst_snoc (c : Crs) : ∀ (o : List Nat) (s l x : Nat), c.cst s l (o ++ [x]) = c.cst s l o + c.stp (fin s o) (lst l o) x
  | [], s, l, x => by simp [Crs.cst, fin, lst]
  | y :: o, s, l, x => by rw [List.cons_append, Crs.cst, cst_snoc c o, Crs.cst, fin, lst, Int.add_assoc]
theorem fin_lt {c : Crs} : ∀ (o : List Nat) (s : Nat), s < 2 ^ c.n → (∀ x ∈ o, x < c.n) → fin s o < 2 ^ c.n
  | [], _, hs, _ => hs
  | x :: o, s, hs, ho => fin_lt o _ (or_lt hs (ho x (by simp))) fun y hy => ho y (by simp [hy])
theorem fol_in {c : Crs} : ∀ (o : List Nat) (s : Nat), c.fol s o = true → ∀ x ∈ o, x < c.n
  | [], _, _, x, hx => by simp at hx
  | y :: o, s, h, x, hx => by
    unfold Crs.fol at h
    rw [Bool.and_eq_true, Bool.and_eq_true] at h
    rcases List.mem_cons.1 hx with rfl | hx
    · exact of_decide_eq_true h.1.1
    · exact fol_in o _ h.2 x hx

/-- a table that nowhere says more than what is due -/
def Crs.snd (c : Crs) (t : Nat → Int) : Prop := ∀ s l, s < 2 ^ c.n → l < c.n → s.testBit l = true → t (c.n * s + l) ≤ c.due t s l
theorem pz_num {c : Crs} {s l : Nat} (hs : s < 2 ^ c.n) (hl : l < c.n) (hb : s.testBit l = true) : c.pz (c.n * s + l) = c.due c.pz s l := by
  have h := pz_eq (c := c) (p := c.n * s + l) (by rw [(nd_num hl).1]; exact hs)
  rw [(nd_num hl).1, (nd_num hl).2, if_pos hb] at h
  exact h
theorem pz_snd (c : Crs) : c.snd c.pz := fun s l hs hl hb => by rw [pz_num hs hl hb]; exact Int.le_refl _
theorem bit_self (s x : Nat) : (s ||| 2 ^ x).testBit x = true := by rw [bit_or]; simp
/-- each order costs at least what a sound table says -/
theorem snd_low {c : Crs} {t : Nat → Int} (ht : c.snd t) : ∀ (o : List Nat) (s l : Nat), s < 2 ^ c.n → l < c.n → c.fol s o = true → fin s o = c.all → c.due t s l ≤ c.cst s l o + c.en (lst l o)
  | [], s, l, hs, hl, hf, ha => by
    unfold fin at ha
    unfold Crs.due Crs.cst lst
    rw [if_pos ha]; omega
  | x :: o, s, l, hs, hl, hf, ha => by
    unfold Crs.fol at hf
    rw [Bool.and_eq_true, Bool.and_eq_true] at hf
    obtain ⟨⟨hx, hc⟩, hf⟩ := hf
    replace hx := of_decide_eq_true hx
    have hna : s ≠ c.all := fun e => by rw [e, can_all hx] at hc; cases hc
    obtain ⟨y, hy, hcy, hv, hmin⟩ := chp_first (pr := t) (l := l) ⟨x, hx, hc⟩
    have h1 : c.due t s l = c.val t s l y := by unfold Crs.due; rw [if_neg hna, hv]
    have h2 := (hmin x hx hc).1
    have h3 := ht (s ||| 2 ^ x) x (or_lt hs hx) hx (bit_self s x)
    have h4 := snd_low ht o (s ||| 2 ^ x) x (or_lt hs hx) hx hf ha
    unfold Crs.cst lst
    have h5 : c.val t s l x = c.stp s l x + t (c.n * (s ||| 2 ^ x) + x) := rfl
    omega

/-- how many are in -/
def cntN : Nat → Nat → Nat
  | 0, _ => 0
  | k + 1, s => cntN k s + if s.testBit k = true then 1 else 0
theorem cntN_le : ∀ (n s : Nat), cntN n s ≤ n
  | 0, _ => Nat.le_refl _
  | k + 1, s => by have := cntN_le k s; unfold cntN; split <;> omega
theorem cntN_out : ∀ (n s x : Nat), n ≤ x → cntN n (s ||| 2 ^ x) = cntN n s
  | 0, _, _, _ => rfl
  | k + 1, s, x, h => by
    unfold cntN
    rw [cntN_out k s x (by omega), bit_or, decide_eq_false (show ¬ x = k by omega), Bool.or_false]
theorem cntN_or : ∀ (n s x : Nat), x < n → s.testBit x = false → cntN n (s ||| 2 ^ x) = cntN n s + 1
  | 0, _, _, h, _ => absurd h (Nat.not_lt_zero _)
  | k + 1, s, x, h, hs => by
    unfold cntN
    rw [bit_or]
    rcases Nat.lt_succ_iff_lt_or_eq.1 h with h | rfl
    · rw [cntN_or k s x h hs, decide_eq_false (show ¬ x = k by omega), Bool.or_false]; omega
    · rw [cntN_out x s x (Nat.le_refl _), hs]; simp
theorem cntN_full : ∀ (n s : Nat), cntN n s = n → ∀ j, j < n → s.testBit j = true
  | 0, _, _, j, hj => absurd hj (Nat.not_lt_zero _)
  | k + 1, s, h, j, hj => by
    unfold cntN at h
    have h1 := cntN_le k s
    have h2 : s.testBit k = true := by
      cases hb : s.testBit k
      · rw [hb] at h; simp at h; omega
      · rfl
    rw [h2] at h; simp at h
    rcases Nat.lt_succ_iff_lt_or_eq.1 hj with hj | rfl
    · exact cntN_full k s h j hj
    · exact h2
theorem cntN_zero : ∀ n, cntN n 0 = 0
  | 0 => rfl
  | k + 1 => by unfold cntN; rw [cntN_zero k, Nat.zero_testBit]; rfl
theorem cntN_all (c : Crs) : cntN c.n c.all = c.n := by
  have key : ∀ k, k ≤ c.n → cntN k c.all = k := by
    intro k
    induction k with
    | zero => intro _; rfl
    | succ k ih => intro hk; unfold cntN; rw [ih (by omega), all_bit, decide_eq_true (show k < c.n by omega)]; rfl
  exact key _ (Nat.le_refl _)
theorem fol_cnt {c : Crs} : ∀ (o : List Nat) (s : Nat), c.fol s o = true → cntN c.n (fin s o) = cntN c.n s + o.length
  | [], s, _ => rfl
  | x :: o, s, h => by
    unfold Crs.fol at h
    rw [Bool.and_eq_true, Bool.and_eq_true] at h
    obtain ⟨⟨hx, hc⟩, hf⟩ := h
    rw [fin, fol_cnt o _ hf, cntN_or _ _ _ (of_decide_eq_true hx) (can_bit hc), List.length_cons]; omega
theorem fol_all {c : Crs} {o : List Nat} (h : c.fol 0 o = true) (hl : o.length = c.n) : fin 0 o = c.all := by
  refine all_only (fin_lt _ _ (Nat.two_pow_pos _) (fol_in o 0 h)) (cntN_full _ _ ?_)
  rw [fol_cnt o 0 h, cntN_zero, hl, Nat.zero_add]

/-- bath by bath the first of the cheapest -/
def Crs.grd (c : Crs) (pr : Nat → Int) : Nat → Nat → Nat → List Nat
  | 0, _, _ => []
  | m + 1, s, l => (c.chp pr s l).1.toNat :: c.grd pr m (s ||| 2 ^ (c.chp pr s l).1.toNat) (c.chp pr s l).1.toNat
theorem grd_len (c : Crs) (pr : Nat → Int) : ∀ m s l, (c.grd pr m s l).length = m
  | 0, _, _ => rfl
  | m + 1, s, l => by rw [Crs.grd, List.length_cons, grd_len c pr m]
theorem grd_ok {c : Crs} (hh : c.has = true) : ∀ m s l, cntN c.n s + m = c.n → s < 2 ^ c.n → l < c.n →
    c.fol s (c.grd c.pz m s l) = true ∧ fin s (c.grd c.pz m s l) = c.all ∧ c.cst s l (c.grd c.pz m s l) + c.en (lst l (c.grd c.pz m s l)) = c.due c.pz s l
  | 0, s, l, hc, hs, hl => by
    have ha := all_only hs (cntN_full c.n s (by omega))
    unfold Crs.grd Crs.fol fin Crs.cst lst Crs.due
    rw [if_pos ha]
    exact ⟨rfl, ha, by omega⟩
  | m + 1, s, l, hc, hs, hl => by
    have hna : s ≠ c.all := fun e => by rw [e, cntN_all] at hc; omega
    obtain ⟨y, hy, hcy, hv, hmin⟩ := chp_first (pr := c.pz) (l := l) (has_next hh hs hna)
    have hy9 : (c.chp c.pz s l).1.toNat = y := by rw [hv]; simp
    have hd : c.due c.pz s l = c.val c.pz s l y := by unfold Crs.due; rw [if_neg hna, hv]
    have hcn := cntN_or c.n s y hy (can_bit hcy)
    obtain ⟨i1, i2, i3⟩ := grd_ok hh m (s ||| 2 ^ y) y (by omega) (or_lt hs hy) hy
    rw [Crs.grd, hy9]
    unfold Crs.fol fin Crs.cst lst
    refine ⟨by rw [decide_eq_true hy, hcy, i1]; rfl, i2, ?_⟩
    have h5 : c.val c.pz s l y = c.stp s l y + c.pz (c.n * (s ||| 2 ^ y) + y) := rfl
    rw [pz_num (or_lt hs hy) hy (bit_self s y)] at h5
    omega
/-- in the order of the slices -/
def lx : List Nat → List Nat → Prop
  | [], _ => True
  | _ :: _, [] => False
  | x :: a, y :: b => x < y ∨ x = y ∧ lx a b
theorem grd_first {c : Crs} (hh : c.has = true) : ∀ (o : List Nat) m s l, cntN c.n s + m = c.n → s < 2 ^ c.n → l < c.n → c.fol s o = true → fin s o = c.all → c.cst s l o + c.en (lst l o) = c.due c.pz s l → lx (c.grd c.pz m s l) o
  | [], m, s, l, hc, hs, hl, hf, ha, he => by
    unfold fin at ha
    rw [ha, cntN_all] at hc
    obtain rfl : m = 0 := by omega
    exact trivial
  | x :: o, 0, s, l, hc, hs, hl, hf, ha, he => trivial
  | x :: o, m + 1, s, l, hc, hs, hl, hf, ha, he => by
    unfold Crs.fol at hf
    rw [Bool.and_eq_true, Bool.and_eq_true] at hf
    obtain ⟨⟨hx, hcx⟩, hf⟩ := hf
    replace hx := of_decide_eq_true hx
    have hna : s ≠ c.all := fun e => by rw [e, can_all hx] at hcx; cases hcx
    obtain ⟨y, hy, hcy, hv, hmin⟩ := chp_first (pr := c.pz) (l := l) ⟨x, hx, hcx⟩
    have hy9 : (c.chp c.pz s l).1.toNat = y := by rw [hv]; simp
    have hd : c.due c.pz s l = c.val c.pz s l y := by unfold Crs.due; rw [if_neg hna, hv]
    have h2 := hmin x hx hcx
    unfold fin at ha
    unfold Crs.cst lst at he
    have h4 := snd_low (pz_snd c) o (s ||| 2 ^ x) x (or_lt hs hx) hx hf ha
    have h5 : c.val c.pz s l x = c.stp s l x + c.pz (c.n * (s ||| 2 ^ x) + x) := rfl
    rw [pz_num (or_lt hs hx) hx (bit_self s x)] at h5
    rw [Crs.grd, hy9, lx]
    rcases Nat.lt_trichotomy x y with h | rfl | h
    · have := h2.2 h; omega
    · right
      have hcn := cntN_or c.n s x hx (can_bit hcx)
      exact ⟨rfl, grd_first hh o m (s ||| 2 ^ x) x (by omega) (or_lt hs hx) hx hf ha (by omega)⟩
    · left; exact h
end Go.Proofs.YtlachbodibajlaaDoor
namespace Go.Proofs.YtlachbodibajlaaDoor
open Go.RowKit

/-- the baths that must come before bath j -/
def ndk (a b : Nat → Int) (j : Nat) : Nat → Nat
  | 0 => 0
  | k + 1 => if b k = (j : Int) then ndk a b j k ||| 2 ^ (a k).toNat else ndk a b j k
theorem ndk_bit (a b : Nat → Int) (j t : Nat) : ∀ m, (ndk a b j m).testBit t = true ↔ ∃ i, i < m ∧ b i = (j : Int) ∧ (a i).toNat = t
  | 0 => by
    unfold ndk
    rw [Nat.zero_testBit]
    constructor
    · intro h; cases h
    · rintro ⟨i, h, -⟩; exact absurd h (Nat.not_lt_zero _)
  | k + 1 => by
    unfold ndk
    have ih := ndk_bit a b j t k
    by_cases h : b k = (j : Int)
    · rw [if_pos h, bit_or, Bool.or_eq_true, ih]
      constructor
      · rintro (⟨i, h1, h2⟩ | h1)
        · exact ⟨i, by omega, h2⟩
        · exact ⟨k, by omega, h, of_decide_eq_true h1⟩
      · rintro ⟨i, h1, h2, h3⟩
        rcases Nat.lt_succ_iff_lt_or_eq.1 h1 with h4 | rfl
        · exact Or.inl ⟨i, h4, h2, h3⟩
        · exact Or.inr (decide_eq_true h3)
    · rw [if_neg h, ih]
      constructor
      · rintro ⟨i, h1, h2⟩
        exact ⟨i, by omega, h2⟩
      · rintro ⟨i, h1, h2, h3⟩
        rcases Nat.lt_succ_iff_lt_or_eq.1 h1 with h4 | rfl
        · exact ⟨i, h4, h2, h3⟩
        · exact absurd h2 h
/-- the course of a plan -/
def crs (n m : Nat) (st : Nat → Int) (y : Nat → Nat → Int) (a b : Nat → Int) : Crs := ⟨n, st, y, fun _ => 0, fun j => ndk a b j m⟩
/-- what a valid plan is -/
structure Okp (n mc m : Nat) (st : Nat → Int) (ln : Nat → Nat) (y : Nat → Nat → Int) (a b : Nat → Int) : Prop where
  n1 : 1 ≤ n
  n10 : n ≤ 10
  m40 : m ≤ 40
  st : ∀ i, i < n → 0 ≤ st i ∧ st i ≤ 1000
  mn : mc = n
  ln : ∀ i, i < n → ln i = n
  ch : ∀ i j, i < n → j < n → 0 ≤ y i j ∧ y i j ≤ 1000
  pr : ∀ i, i < m → 0 ≤ a i ∧ a i < n ∧ 0 ≤ b i ∧ b i < n ∧ a i ≠ b i
theorem okPlan_iff {n mc m : Nat} {st : Nat → Int} {ln : Nat → Nat} {y : Nat → Nat → Int} {a b : Nat → Int} : okPlan n mc m st ln y a b = true ↔ Okp n mc m st ln y a b := by
  unfold okPlan costs
  rw [Bool.and_eq_true, Bool.and_eq_true, Bool.and_eq_true, Bool.and_eq_true, decide_eq_true_iff, decide_eq_true_iff, btw_iff, List.all_eq_true, List.all_eq_true]
  constructor
  · rintro ⟨⟨h1, h2, h3⟩, h4, ⟨h5, h6⟩, h7⟩
    subst h5
    have hrow : ∀ i, i < mc → ln i = mc ∧ ∀ j, j < mc → 0 ≤ y i j ∧ y i j ≤ 1000 := fun i hi => by
      have h := h6 i (List.mem_range.2 hi)
      unfold row1 at h
      rw [Bool.and_eq_true, decide_eq_true_iff, btw_iff] at h
      exact ⟨h.1, fun j hj => h.2 j (by omega)⟩
    refine ⟨h1, h2, h3, h4, rfl, fun i hi => (hrow i hi).1, fun i j hi hj => (hrow i hi).2 j hj, fun i hi => ?_⟩
    have h := h7 i (List.mem_range.2 hi)
    unfold pr1 at h
    rw [Bool.and_eq_true, btw_iff] at h
    have p0 := h.2 0 (by omega)
    have p1 := h.2 1 (by omega)
    simp [two2] at p0 p1
    have h8 : a i ≠ b i := by simpa using h.1
    refine ⟨?_, ?_, ?_, ?_, h8⟩ <;> omega
  · intro h
    obtain ⟨h1, h2, h3, h4, rfl, h6, h7, h8⟩ := h
    refine ⟨⟨h1, h2, h3⟩, h4, ⟨rfl, fun i hi => ?_⟩, fun i hi => ?_⟩
    · replace hi := List.mem_range.1 hi
      unfold row1
      rw [Bool.and_eq_true, decide_eq_true_iff, btw_iff]
      exact ⟨h6 i hi, fun j hj => h7 i j hi (by rw [h6 i hi] at hj; exact hj)⟩
    · obtain ⟨q1, q2, q3, q4, q5⟩ := h8 i (List.mem_range.1 hi)
      unfold pr1
      rw [Bool.and_eq_true, btw_iff]
      refine ⟨by simpa using q5, fun j hj => ?_⟩
      unfold two2
      split <;> omega
theorem okPlan_no {n mc m : Nat} {st : Nat → Int} {ln : Nat → Nat} {y : Nat → Nat → Int} {a b : Nat → Int} (h : ¬ Okp n mc m st ln y a b) : okPlan n mc m st ln y a b = false := by
  cases hv : okPlan n mc m st ln y a b
  · rfl
  · exact absurd (okPlan_iff.1 hv) h
theorem ndk_lt {n m : Nat} {a b : Nat → Int} (h : ∀ i, i < m → 0 ≤ a i ∧ a i < n) (j : Nat) : ∀ k, k ≤ m → ndk a b j k < 2 ^ n
  | 0, _ => Nat.two_pow_pos _
  | k + 1, hk => by
    have h1 := h k (by omega)
    have h2 := ndk_lt (b := b) h j k (by omega)
    unfold ndk
    split
    · exact Nat.or_lt_two_pow h2 (Nat.pow_lt_pow_right (by omega) (by omega))
    · exact h2
theorem Okp.crs {n mc m : Nat} {st : Nat → Int} {ln : Nat → Nat} {y : Nat → Nat → Int} {a b : Nat → Int} (h : Okp n mc m st ln y a b) : (crs n m st y a b).ok :=
  ⟨h.n1, h.n10, h.st, h.ch, fun i _ => ⟨Int.le_refl 0, (by decide : (0 : Int) ≤ 1000)⟩, fun j _ => ndk_lt (fun i hi => ⟨(h.pr i hi).1, (h.pr i hi).2.1⟩) j m (Nat.le_refl _)⟩
/-- the cut changes no valid plan, and makes none valid -/
theorem Okp.cut {n mc m : Nat} {st : Nat → Int} {ln : Nat → Nat} {y : Nat → Nat → Int} {a b : Nat → Int} : Okp (min n 12) (min mc 12) (min m 42) st (fun i => min (ln i) 12) y a b ↔ Okp n mc m st ln y a b := by
  constructor
  · intro h
    have h1 := h.n10
    have h2 := h.m40
    have h3 := h.mn
    obtain rfl : mc = n := by omega
    have e1 : min mc 12 = mc := by omega
    have e2 : min m 42 = m := by omega
    rw [e1, e2] at h
    exact ⟨h.n1, h.n10, h.m40, h.st, rfl, fun i hi => by have := h.ln i hi; omega, h.ch, h.pr⟩
  · intro h
    have h1 := h.n10
    have h2 := h.m40
    have h3 := h.mn
    obtain rfl : mc = n := by omega
    have e1 : min mc 12 = mc := by omega
    have e2 : min m 42 = m := by omega
    rw [e1, e2]
    exact ⟨h.n1, h.n10, h.m40, h.st, rfl, fun i hi => by have := h.ln i hi; omega, h.ch, h.pr⟩
/-- the reference's way to see whether a bath can follow -/
def fol1 (a b : Nat → Int) (j s : Nat) (i : Nat) : Bool := !(decide (b i = (j : Int)) && !s.testBit (a i).toNat)
theorem can_crs {n m : Nat} {st : Nat → Int} {y : Nat → Nat → Int} {a b : Nat → Int} (ha : ∀ i, i < m → 0 ≤ a i ∧ a i < n) (hn : n ≤ 10) (s j : Nat) : (crs n m st y a b).can s j = ((List.range m).all (fol1 a b j s) && !s.testBit j) := by
  unfold Crs.can
  rw [Bool.and_comm]
  congr 1
  rw [Bool.eq_iff_iff, sub_iff, List.all_eq_true]
  show (∀ t, t < 10 → (ndk a b j m).testBit t = true → s.testBit t = true) ↔ _
  constructor
  · intro h i hi
    replace hi := List.mem_range.1 hi
    unfold fol1
    by_cases hb : b i = (j : Int)
    · have := h (a i).toNat (by have := ha i hi; omega) ((ndk_bit a b j _ m).2 ⟨i, hi, hb, rfl⟩)
      rw [this]; simp
    · rw [decide_eq_false hb]; rfl
  · intro h t ht hb
    obtain ⟨i, hi, h1, rfl⟩ := (ndk_bit a b j t m).1 hb
    have := h i (List.mem_range.2 hi)
    unfold fol1 at this
    rw [decide_eq_true h1] at this
    simpa using this
end Go.Proofs.YtlachbodibajlaaDoor
namespace Go.Proofs.YtlachbodibajlaaDoor
open Go.RowKit

/-- one bath looked at, as the reference does: the first below what is known -/
def Crs.ckR (c : Crs) (pr : Nat → Int) (s l : Nat) (b : Int × Int) (x : Nat) : Int × Int :=
  if c.can s x = true then (if c.val pr s l x < b.2 then ((x : Int), c.val pr s l x) else b) else b
theorem ckR_pre {c : Crs} {pr : Nat → Int} {s l : Nat} {F : Int} (hF : ∀ x, x < c.n → c.can s x = true → c.val pr s l x < F) : ∀ m, m ≤ c.n →
    ((List.range m).foldl (c.ck pr s l) (-1, 0) = (-1, 0) ∧ (List.range m).foldl (c.ckR pr s l) (-1, F) = (-1, F)) ∨
    ((List.range m).foldl (c.ckR pr s l) (-1, F) = (List.range m).foldl (c.ck pr s l) (-1, 0) ∧ 0 ≤ ((List.range m).foldl (c.ck pr s l) (-1, 0)).1)
  | 0, _ => Or.inl ⟨rfl, rfl⟩
  | m + 1, hm => by
    have hst : (List.range (m + 1)).foldl (c.ck pr s l) (-1, 0) = c.ck pr s l ((List.range m).foldl (c.ck pr s l) (-1, 0)) m := by
      rw [List.range_succ, List.foldl_append]; rfl
    have hst2 : (List.range (m + 1)).foldl (c.ckR pr s l) (-1, F) = c.ckR pr s l ((List.range m).foldl (c.ckR pr s l) (-1, F)) m := by
      rw [List.range_succ, List.foldl_append]; rfl
    have hck : ∀ b : Int × Int, c.ck pr s l b m = if c.can s m = true then (if b.1 < 0 ∨ c.val pr s l m < b.2 then ((m : Int), c.val pr s l m) else b) else b := fun b => rfl
    have hckR : ∀ b : Int × Int, c.ckR pr s l b m = if c.can s m = true then (if c.val pr s l m < b.2 then ((m : Int), c.val pr s l m) else b) else b := fun b => rfl
    rw [hst, hst2, hck, hckR]
    rcases ckR_pre hF m (by omega) with ⟨h1, h2⟩ | ⟨h1, h2⟩
    · rw [h1, h2]
      cases hc : c.can s m
      · left; exact ⟨rfl, rfl⟩
      · right
        have := hF m (by omega) hc
        rw [if_pos rfl, if_pos rfl, if_pos this, if_pos (Or.inl (by decide))]
        exact ⟨rfl, by dsimp only; omega⟩
    · rw [h1]
      right
      cases hc : c.can s m
      · exact ⟨rfl, h2⟩
      · rw [if_pos rfl, if_pos rfl]
        by_cases hv : c.val pr s l m < ((List.range m).foldl (c.ck pr s l) (-1, 0)).2
        · rw [if_pos hv, if_pos (Or.inr hv)]
          exact ⟨rfl, by dsimp only; omega⟩
        · rw [if_neg hv, if_neg (fun h => h.elim (fun h => by omega) hv)]
          exact ⟨rfl, h2⟩
theorem ckR_chp {c : Crs} {pr : Nat → Int} {s l : Nat} {F : Int} (hF : ∀ x, x < c.n → c.can s x = true → c.val pr s l x < F) (hx : ∃ x, x < c.n ∧ c.can s x = true) : (List.range c.n).foldl (c.ckR pr s l) (-1, F) = c.chp pr s l := by
  rcases ckR_pre hF c.n (Nat.le_refl _) with ⟨h1, -⟩ | ⟨h1, -⟩
  · obtain ⟨y, -, -, hv, -⟩ := chp_first (pr := pr) (l := l) hx
    have h2 : c.chp pr s l = (-1, 0) := h1
    rw [h2] at hv
    have := congrArg Prod.fst hv
    exact absurd this (by simp)
  · exact h1
/-- .. and its least -/
def Crs.lsR (c : Crs) (pr : Nat → Int) (s l : Nat) (z : Int) (x : Nat) : Int := if c.can s x = true then min z (c.val pr s l x) else z
theorem lsR_pre (c : Crs) (pr : Nat → Int) (s l : Nat) (F : Int) : ∀ m, (List.range m).foldl (c.lsR pr s l) F ≤ F ∧ (∀ x, x < m → c.can s x = true → (List.range m).foldl (c.lsR pr s l) F ≤ c.val pr s l x) ∧
    ((List.range m).foldl (c.lsR pr s l) F = F ∨ ∃ x, x < m ∧ c.can s x = true ∧ (List.range m).foldl (c.lsR pr s l) F = c.val pr s l x)
  | 0 => ⟨Int.le_refl _, fun x hx => absurd hx (Nat.not_lt_zero _), Or.inl rfl⟩
  | m + 1 => by
    have hst : (List.range (m + 1)).foldl (c.lsR pr s l) F = c.lsR pr s l ((List.range m).foldl (c.lsR pr s l) F) m := by
      rw [List.range_succ, List.foldl_append]; rfl
    obtain ⟨h1, h2, h3⟩ := lsR_pre c pr s l F m
    have hls : ∀ z : Int, c.lsR pr s l z m = if c.can s m = true then min z (c.val pr s l m) else z := fun z => rfl
    rw [hst, hls]
    cases hc : c.can s m
    · refine ⟨h1, fun x hx hcx => ?_, h3.imp id fun ⟨x, hx, h⟩ => ⟨x, by omega, h⟩⟩
      rcases Nat.lt_succ_iff_lt_or_eq.1 hx with h | rfl
      · exact h2 x h hcx
      · rw [hc] at hcx; cases hcx
    · rw [if_pos rfl]
      refine ⟨by have := Int.min_le_left ((List.range m).foldl (c.lsR pr s l) F) (c.val pr s l m); exact Int.le_trans this h1, fun x hx hcx => ?_, ?_⟩
      · rcases Nat.lt_succ_iff_lt_or_eq.1 hx with h | rfl
        · exact Int.le_trans (Int.min_le_left _ _) (h2 x h hcx)
        · exact Int.min_le_right _ _
      · by_cases hv : (List.range m).foldl (c.lsR pr s l) F ≤ c.val pr s l m
        · rw [Int.min_eq_left hv]
          exact h3.imp id fun ⟨x, hx, h⟩ => ⟨x, by omega, h⟩
        · rw [Int.min_eq_right (by omega)]
          exact Or.inr ⟨m, by omega, hc, rfl⟩
theorem lsR_none {c : Crs} {pr : Nat → Int} {s l : Nat} {F : Int} (h : ∀ x, x < c.n → c.can s x = false) : (List.range c.n).foldl (c.lsR pr s l) F = F := by
  rcases (lsR_pre c pr s l F c.n).2.2 with h1 | ⟨x, hx, hc, -⟩
  · exact h1
  · rw [h x hx] at hc; cases hc
theorem lsR_chp {c : Crs} {pr : Nat → Int} {s l : Nat} {F : Int} (hF : ∀ x, x < c.n → c.can s x = true → c.val pr s l x ≤ F) (hx : ∃ x, x < c.n ∧ c.can s x = true) : (List.range c.n).foldl (c.lsR pr s l) F = (c.chp pr s l).2 := by
  obtain ⟨y, hy, hcy, hv, hmin⟩ := chp_first (pr := pr) (l := l) hx
  obtain ⟨h1, h2, h3⟩ := lsR_pre c pr s l F c.n
  rw [hv]
  have h4 := h2 y hy hcy
  have h5 := hF y hy hcy
  rcases h3 with h3 | ⟨x, hx, hcx, h3⟩
  · dsimp only; omega
  · have := (hmin x hx hcx).1
    dsimp only; omega
/-- a price, as the reference finds it -/
theorem pz_lsR {c : Crs} (hh : c.has = true) {s l : Nat} (hs : s < 2 ^ c.n) (hl : l < c.n) (hb : s.testBit l = true) (he : c.en l = 0) {F : Int} (hF : ∀ x, x < c.n → c.val c.pz s l x ≤ F) :
    c.pz (c.n * s + l) = (List.range c.n).foldl (c.lsR c.pz s l) (if s = c.all then 0 else F) := by
  rw [pz_num hs hl hb]
  unfold Crs.due
  split
  · rename_i ha
    subst ha
    rw [lsR_none fun x hx => can_all hx, he]
  · rename_i ha
    rw [lsR_chp (fun x hx _ => hF x hx) (has_next hh hs ha)]

/-- soundness, as the program sees it -/
def Crs.sn1 (c : Crs) (t : Nat → Int) (q : Nat) : Bool := !(q / c.n).testBit (q % c.n) || decide (t q ≤ c.due t (q / c.n) (q % c.n))
def Crs.isSnd (c : Crs) (t : Nat → Int) : Bool := (List.range c.sz).all (c.sn1 t)
theorem isSnd_iff {c : Crs} (hn : 1 ≤ c.n) {t : Nat → Int} : c.isSnd t = true ↔ c.snd t := by
  unfold Crs.isSnd
  rw [List.all_eq_true]
  constructor
  · intro h s l hs hl hb
    have h6 : c.n * (s + 1) ≤ c.n * 2 ^ c.n := Nat.mul_le_mul_left _ hs
    rw [Nat.mul_add, Nat.mul_one] at h6
    have h1 := h (c.n * s + l) (List.mem_range.2 (by unfold Crs.sz; omega))
    unfold Crs.sn1 at h1
    rw [(nd_num hl).1, (nd_num hl).2, hb] at h1
    simpa using h1
  · intro h q hq
    replace hq := List.mem_range.1 hq
    have hs : q / c.n < 2 ^ c.n := Nat.div_lt_of_lt_mul hq
    have hl : q % c.n < c.n := Nat.mod_lt _ (by omega)
    have he : c.n * (q / c.n) + q % c.n = q := Nat.div_add_mod q c.n
    unfold Crs.sn1
    cases hb : (q / c.n).testBit (q % c.n)
    · rfl
    · have h1 := h _ _ hs hl hb
      rw [he] at h1
      simpa using h1
/-- .. and as the reference sees it -/
def Crs.sr2 (c : Crs) (t : Nat → Int) (i s j : Nat) : Bool := !(c.can s j && decide (c.ch i j + t (c.n * (s ||| 2 ^ j) + j) < t (c.n * s + i)))
def Crs.sr1 (c : Crs) (t : Nat → Int) (i s : Nat) : Bool := !s.testBit i || (decide (s ≠ c.all ∨ t (c.n * s + i) ≤ 0) && (List.range c.n).all (c.sr2 t i s))
def Crs.sndR (c : Crs) (t : Nat → Int) : Bool := (List.range c.n).all fun i => (List.range (2 ^ c.n)).all (c.sr1 t i)
theorem sndR_iff {c : Crs} (hh : c.has = true) (he : ∀ i, i < c.n → c.en i = 0) {t : Nat → Int} : c.sndR t = true ↔ c.snd t := by
  unfold Crs.sndR
  rw [List.all_eq_true]
  have key : ∀ s l, s < 2 ^ c.n → l < c.n → s.testBit l = true → (c.sr1 t l s = true ↔ t (c.n * s + l) ≤ c.due t s l) := by
    intro s l hs hl hb
    have hs0 : s ≠ 0 := fun e => by rw [e, Nat.zero_testBit] at hb; cases hb
    unfold Crs.sr1
    rw [hb, Bool.not_true, Bool.false_or, Bool.and_eq_true, decide_eq_true_iff, List.all_eq_true]
    have h2 : ∀ j, c.sr2 t l s j = true ↔ (c.can s j = true → t (c.n * s + l) ≤ c.val t s l j) := by
      intro j
      have hv : c.val t s l j = c.ch l j + t (c.n * (s ||| 2 ^ j) + j) := by unfold Crs.val Crs.stp; rw [if_neg hs0]
      unfold Crs.sr2
      rw [hv]
      cases hc : c.can s j
      · simp
      · simp
    unfold Crs.due
    by_cases ha : s = c.all
    · rw [if_pos ha, he l hl]
      constructor
      · rintro ⟨h, -⟩
        rcases h with h | h
        · exact absurd ha h
        · exact h
      · intro h
        refine ⟨Or.inr h, fun j hj => (h2 j).2 fun hc => ?_⟩
        rw [ha, can_all (List.mem_range.1 hj)] at hc
        cases hc
    · rw [if_neg ha]
      obtain ⟨y, hy, hcy, hv, hmin⟩ := chp_first (pr := t) (l := l) (has_next hh hs ha)
      rw [hv]
      constructor
      · rintro ⟨-, h⟩
        exact (h2 y).1 (h y (List.mem_range.2 hy)) hcy
      · intro h
        refine ⟨Or.inl ha, fun j hj => (h2 j).2 fun hc => ?_⟩
        have := (hmin j (List.mem_range.1 hj) hc).1
        dsimp only at h
        omega
  constructor
  · intro h s l hs hl hb
    exact (key s l hs hl hb).1 (List.all_eq_true.1 (h l (List.mem_range.2 hl)) s (List.mem_range.2 hs))
  · intro h i hi
    rw [List.all_eq_true]
    intro s hs
    replace hi := List.mem_range.1 hi
    replace hs := List.mem_range.1 hs
    cases hb : s.testBit i
    · unfold Crs.sr1; rw [hb]; rfl
    · exact (key s i hs hi hb).2 (h s i hs hi hb)
theorem sndR_eq {c : Crs} (hn : 1 ≤ c.n) (hh : c.has = true) (he : ∀ i, i < c.n → c.en i = 0) (t : Nat → Int) : c.sndR t = c.isSnd t := by
  rw [Bool.eq_iff_iff, isSnd_iff hn, sndR_iff hh he]
end Go.Proofs.YtlachbodibajlaaDoor
