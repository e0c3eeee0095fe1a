/- All stamps of a size, as mathematics. -/
import Derived.Test.YtgjanbgehbpciaaK3
namespace Go.Proofs.Ytgjanbgehbpciaa
open Go.RowKit

/-- sums over lists -/
def sumN {α : Type} (f : α → Nat) : List α → Nat
  | [] => 0
  | a :: l => f a + sumN f l
theorem sumN_append {α : Type} (f : α → Nat) : ∀ l k : List α, sumN f (l ++ k) = sumN f l + sumN f k
  | [], k => by simp [sumN]
  | a :: l, k => by simp only [List.cons_append, sumN, sumN_append f l k]; omega
theorem sumN_congr {α : Type} {f g : α → Nat} : ∀ {l : List α}, (∀ a ∈ l, f a = g a) → sumN f l = sumN g l
  | [], _ => rfl
  | a :: l, h => by simp only [sumN]; rw [h a (List.mem_cons_self ..), sumN_congr (fun b hb => h b (List.mem_cons_of_mem _ hb))]
theorem sumN_one {α : Type} : ∀ l : List α, sumN (fun _ => 1) l = l.length
  | [] => rfl
  | _ :: l => by simp only [sumN, sumN_one l, List.length_cons]; omega
theorem sumN_zero {α : Type} : ∀ l : List α, sumN (fun _ => 0) l = 0
  | [] => rfl
  | _ :: l => by simp only [sumN, sumN_zero l]
theorem sumN_add {α : Type} (f g : α → Nat) : ∀ l : List α, sumN (fun a => f a + g a) l = sumN f l + sumN g l
  | [] => rfl
  | a :: l => by simp only [sumN, sumN_add f g l]; omega
theorem sumN_take_le {α : Type} (f : α → Nat) : ∀ (l : List α) (k : Nat), sumN f (l.take k) ≤ sumN f l
  | [], k => by simp [sumN]
  | a :: l, 0 => by simp [sumN]
  | a :: l, k + 1 => by simp only [List.take_succ_cons, sumN]; have := sumN_take_le f l k; omega
theorem filter_len {α : Type} (p : α → Bool) : ∀ l : List α, (l.filter p).length = sumN (fun a => if p a then 1 else 0) l
  | [] => rfl
  | a :: l => by
    simp only [sumN]
    rw [← filter_len p l, List.filter_cons]
    cases p a <;> simp <;> omega
/-- pairs counted in two ways -/
theorem sumN_two {α β : Type} (r : α → β → Bool) (S : List β) : ∀ F : List α, sumN (fun a => (S.filter (r a)).length) F = sumN (fun d => (F.filter (fun a => r a d)).length) S
  | [] => by simp [sumN, sumN_zero]
  | a :: F => by
    simp only [sumN]
    rw [sumN_two r S F, filter_len, ← sumN_add]
    refine sumN_congr fun d _ => ?_
    rw [List.filter_cons]
    cases r a d <;> simp <;> omega
theorem len_one {α : Type} [DecidableEq α] {l : List α} {a : α} (hn : l.Nodup) (ha : a ∈ l) (h : ∀ x ∈ l, x = a) : l.length = 1 := by
  have h1 := len_sub l [a] hn (fun x hx => by rw [h x hx]; exact List.mem_singleton_self a)
  have h2 := List.length_pos_of_mem ha
  simp at h1
  omega

/-- all lists of N colours below c, in order -/
def allC (c : Nat) : Nat → List (List Int)
  | 0 => [[]]
  | N + 1 => (List.range c).flatMap fun x : Nat => (allC c N).map fun l => (x : Int) :: l
theorem allC_mem {c : Nat} : ∀ {N : Nat} {l : List Int}, l ∈ allC c N ↔ l.length = N ∧ ∀ x ∈ l, 0 ≤ x ∧ x < c
  | 0, l => by
    simp only [allC, List.mem_singleton, List.length_eq_zero_iff]
    constructor
    · rintro rfl; exact ⟨rfl, fun x hx => by cases hx⟩
    · rintro ⟨h, -⟩; exact h
  | N + 1, [] => by simp [allC]
  | N + 1, x :: l => by
    have ih := allC_mem (c := c) (N := N) (l := l)
    simp only [allC, List.mem_flatMap, List.mem_range, List.mem_map, List.length_cons, List.mem_cons, Nat.add_right_cancel_iff]
    constructor
    · rintro ⟨a, ha, k, hk, e⟩
      injection e with e1 e2
      subst e1 e2
      obtain ⟨h1, h2⟩ := ih.1 hk
      exact ⟨h1, fun y hy => by rcases hy with rfl | hy; omega; exact h2 y hy⟩
    · rintro ⟨h1, h2⟩
      obtain ⟨a0, a1⟩ := h2 x (.inl rfl)
      exact ⟨x.toNat, by omega, l, ih.2 ⟨h1, fun y hy => h2 y (.inr hy)⟩, by rw [Int.toNat_of_nonneg a0]⟩
theorem ltL_cons_lt {x y : Int} (h : x < y) (l k : List Int) : ltL (x :: l) (y :: k) = true := by
  unfold ltL cmpL; rw [if_neg (by omega), if_pos h]; rfl
theorem ltL_cons_eq (x : Int) (l k : List Int) : ltL (x :: l) (x :: k) = ltL l k := by
  unfold ltL; rw [cmpL, if_pos rfl]
theorem flat_len {α β : Type} (f : α → List β) (m : Nat) (hf : ∀ a, (f a).length = m) : ∀ l : List α, (l.flatMap f).length = l.length * m
  | [] => by simp
  | a :: l => by rw [List.flatMap_cons, List.length_append, flat_len f m hf l, hf, List.length_cons, Nat.succ_mul]; omega
theorem flat_at {α β : Type} (f : α → List β) (m : Nat) (hf : ∀ a, (f a).length = m) : ∀ (l : List α) (i r : Nat) (a : α), l[i]? = some a → r < m → (l.flatMap f)[i * m + r]? = (f a)[r]?
  | [], i, r, a, h, _ => by simp at h
  | b :: l, 0, r, a, h, hr => by
    simp at h; subst h
    rw [List.flatMap_cons, Nat.zero_mul, Nat.zero_add, List.getElem?_append_left (by rw [hf]; exact hr)]
  | b :: l, i + 1, r, a, h, hr => by
    rw [List.flatMap_cons, List.getElem?_append_right (by rw [hf, Nat.succ_mul]; omega), hf, show (i + 1) * m + r - m = i * m + r by rw [Nat.succ_mul]; omega]
    exact flat_at f m hf l i r a (by simpa using h) hr
theorem allC_len (c : Nat) : ∀ N, (allC c N).length = c ^ N
  | 0 => rfl
  | N + 1 => by
    rw [allC, flat_len _ (c ^ N) (fun a => by rw [List.length_map, allC_len c N]), List.length_range, Nat.pow_succ, Nat.mul_comm]
theorem allC_sorted (c : Nat) : ∀ N, (allC c N).Pairwise (fun a b => ltL a b = true)
  | 0 => List.pairwise_singleton _ _
  | N + 1 => by
    rw [allC, List.pairwise_flatMap]
    refine ⟨fun x _ => ?_, ?_⟩
    · rw [List.pairwise_map]
      exact (allC_sorted c N).imp (fun h => by rw [ltL_cons_eq]; exact h)
    · refine List.Pairwise.imp ?_ List.pairwise_lt_range
      intro a b hab l hl k hk
      rw [List.mem_map] at hl hk
      obtain ⟨l', -, rfl⟩ := hl
      obtain ⟨k', -, rfl⟩ := hk
      exact ltL_cons_lt (by omega) _ _
theorem nodup_of_lt {L : List (List Int)} (h : L.Pairwise (fun a b => ltL a b = true)) : L.Nodup := h.imp (fun hab e => by rw [e, ltL_irrefl] at hab; cases hab)

/-- the next one -/
def nxt (c : Nat) : List Int → Bool × List Int
  | [] => (false, [])
  | x :: l => if (nxt c l).1 then (true, x :: (nxt c l).2) else if x + 1 < c then (true, (x + 1) :: (nxt c l).2) else (false, 0 :: (nxt c l).2)
theorem nxt_at (c : Nat) (hc : 1 ≤ c) : ∀ (N k : Nat) (l : List Int), (allC c N)[k]? = some l → (k + 1 < c ^ N → (nxt c l).1 = true ∧ (allC c N)[k + 1]? = some (nxt c l).2) ∧ (k + 1 = c ^ N → nxt c l = (false, List.replicate N 0)) ∧ (allC c N)[0]? = some (List.replicate N 0)
  | 0, k, l, h => by
    have hk : k < 1 := (List.getElem?_eq_some_iff.1 h).1
    obtain rfl : k = 0 := by omega
    simp [allC] at h; subst h
    exact ⟨fun h => by simp at h, fun _ => rfl, rfl⟩
  | N + 1, k, l, h => by
    have hm : 0 < c ^ N := Nat.pow_pos (by omega)
    have hlen := allC_len c N
    have hf : ∀ a : Nat, ((allC c N).map fun l => (a : Int) :: l).length = c ^ N := fun a => by rw [List.length_map, hlen]
    have hat : ∀ i r, i < c → r < c ^ N → (allC c (N + 1))[i * c ^ N + r]? = ((allC c N)[r]?).map (fun l => (i : Int) :: l) := fun i r hi hr => by
      have := flat_at (fun a : Nat => (allC c N).map fun l => (a : Int) :: l) (c ^ N) hf (List.range c) i r i (by simp [hi]) hr
      rw [allC, this, List.getElem?_map]
    have hk : k < c ^ (N + 1) := by rw [← allC_len]; exact (List.getElem?_eq_some_iff.1 h).1
    have hpow : c ^ (N + 1) = c ^ N * c := Nat.pow_succ ..
    obtain ⟨M, hM⟩ : ∃ M, M = c ^ N := ⟨_, rfl⟩
    rw [← hM] at hm hlen hf hat hpow
    obtain ⟨i, hi⟩ : ∃ i, i = k / M := ⟨_, rfl⟩
    obtain ⟨r, hr⟩ : ∃ r, r = k % M := ⟨_, rfl⟩
    have hke : k = i * M + r := by rw [hi, hr, Nat.mul_comm]; exact (Nat.div_add_mod k M).symm
    have hrM : r < M := by rw [hr]; exact Nat.mod_lt _ hm
    have hic : i < c := by rw [hi]; exact Nat.div_lt_of_lt_mul (by rw [← hpow]; exact hk)
    clear hi hr
    rw [hke, hat i r hic hrM] at h
    obtain ⟨a, ha⟩ : ∃ a, (allC c N)[r]? = some a := ⟨_, List.getElem?_eq_getElem (by rw [hlen]; exact hrM)⟩
    rw [ha] at h
    simp only [Option.map_some, Option.some.injEq] at h
    subst h
    obtain ⟨i1, i2, i3⟩ := nxt_at c hc N r a ha
    rw [← hM] at i1 i2
    have hzero : (allC c (N + 1))[0]? = some (List.replicate (N + 1) 0) := by
      have := hat 0 0 (by omega) hm
      rw [Nat.zero_mul, Nat.zero_add, i3] at this
      rw [this]; rfl
    refine ⟨fun hk1 => ?_, fun hk1 => ?_, hzero⟩
    · rw [hpow, hke] at hk1
      rcases Nat.lt_or_ge (r + 1) M with h1 | h1
      · obtain ⟨b1, b2⟩ := i1 h1
        unfold nxt
        rw [b1]
        refine ⟨rfl, ?_⟩
        rw [hke, Nat.add_assoc, hat i (r + 1) hic h1, b2]; rfl
      · have hr1 : r + 1 = M := by omega
        have e := i2 hr1
        have hi1 : i + 1 < c := by
          rcases Nat.lt_or_ge (i + 1) c with h2 | h2
          · exact h2
          · exfalso
            have : i + 1 = c := by omega
            rw [← this, Nat.mul_succ, Nat.mul_comm] at hk1
            omega
        unfold nxt
        rw [e]
        simp only [Bool.false_eq_true, if_false]
        rw [if_pos (by omega)]
        refine ⟨rfl, ?_⟩
        rw [hke, show i * M + r + 1 = (i + 1) * M + 0 by rw [Nat.succ_mul]; omega, hat (i + 1) 0 hi1 hm, i3]
        simp
    · rw [hpow, hke] at hk1
      have hi1 : i + 1 = c := by
        rcases Nat.lt_or_ge (i + 1) c with h2 | h2
        · exfalso
          have : (i + 2) * M ≤ c * M := Nat.mul_le_mul_right _ (by omega)
          rw [Nat.mul_comm M c, Nat.add_mul] at *
          omega
        · omega
      have hr1 : r + 1 = M := by
        rw [← hi1, Nat.mul_succ, Nat.mul_comm] at hk1
        omega
      have e := i2 hr1
      unfold nxt
      rw [e]
      simp only [Bool.false_eq_true, if_false]
      rw [if_neg (by omega)]
      rfl

section
variable {w h N : Nat} {g : List Mv} {cs : List Int}
/-- no move makes an earlier one -/
def isF (w h N : Nat) (g : List Mv) (cs : List Int) : Bool := g.all fun m => !ltL (apl w h (inv w h m) cs N) cs
theorem isF_iff (hs : okSize w h = true) (hG : IsG w h g) : isF w h N g cs = true ↔ ∀ m ∈ g, ltL (apl w h m cs N) cs = false := by
  unfold isF
  rw [List.all_eq_true]
  have hii : ∀ m ∈ g, inv w h (inv w h m) = m := fun m hm => by
    have hmh := hG.has m hm
    have := inv_only hs (inv_has hs hmh) hmh (aft_inv hs hmh)
    exact this.symm
  constructor
  · intro ha m hm
    have := ha _ (hG.inv_ hs hm)
    rw [hii m hm] at this
    simpa using this
  · intro ha m hm
    have := ha _ (hG.inv_ hs hm)
    simp [this]
theorem apl_allC {c : Nat} (hs : okSize w h = true) (hN : N = w * h) {m : Mv} (hm : Go.Proofs.Ytgjanbgehbpciaa.has w h m = true) (hc : cs ∈ allC c N) : apl w h m cs N ∈ allC c N := by
  obtain ⟨h1, h2⟩ := allC_mem.1 hc
  have hs' := okSize_iff.1 hs
  refine allC_mem.2 ⟨by rw [apl_len, hN], fun x hx => ?_⟩
  obtain ⟨j, hj, rfl⟩ := List.getElem_of_mem hx
  rw [apl_len] at hj
  have hf := gN_forth hs hm hj
  have hi := (gN_in (h := h) (inv w h m) j (by omega : 1 ≤ w) (by omega)).1
  have e1 := apl_at hs hm cs N (by omega) (gN w h (inv w h m) j) (by omega)
  rw [hf, List.getD_eq_getElem?_getD, List.getElem?_eq_getElem (by rw [apl_len]; exact hj), List.getD_eq_getElem?_getD, List.getElem?_eq_getElem (by omega)] at e1
  simp only [Option.getD_some] at e1
  rw [e1]
  exact h2 _ (List.getElem_mem _)
/-- is d made of c by a move? -/
def mkB (w h N : Nat) (g : List Mv) (c d : List Int) : Bool := g.any fun m => decide (d = apl w h m c N)
theorem mkB_iff {c d : List Int} : mkB w h N g c d = true ↔ ∃ m ∈ g, d = apl w h m c N := by
  unfold mkB; rw [List.any_eq_true]; simp
/-- how many are made of one -/
def onum (w h N c : Nat) (g : List Mv) (cs : List Int) : Nat := ((allC c N).filter (mkB w h N g cs)).length
theorem Orb.onum_ {c : Nat} (hs : okSize w h = true) (hN : N = w * h) (hG : IsG w h g) (hc : cs ∈ allC c N) {L : List (List Int)} (hL : Orb w h N cs g L) : L.length = onum w h N c g cs := by
  have n1 := nodup_of_lt hL.1
  have n2 : ((allC c N).filter (mkB w h N g cs)).Nodup := List.Pairwise.filter _ (nodup_of_lt (allC_sorted c N))
  refine Nat.le_antisymm (len_sub _ _ n1 fun x hx => ?_) (len_sub _ _ n2 fun x hx => ?_)
  · have hx' := (hL.2 x).1 hx
    rw [List.mem_filter]
    refine ⟨?_, mkB_iff.2 hx'⟩
    obtain ⟨m, hm, rfl⟩ := hx'
    exact apl_allC hs hN (hG.has m hm) hc
  · exact (hL.2 x).2 (mkB_iff.1 (List.mem_filter.1 hx).2)
theorem ex_min : ∀ (L : List (List Int)), L ≠ [] → ∃ a ∈ L, ∀ b ∈ L, ltL b a = false
  | [], h => absurd rfl h
  | [a], _ => ⟨a, List.mem_singleton_self a, fun b hb => by rw [List.mem_singleton.1 hb]; exact ltL_irrefl a⟩
  | a :: b :: L, _ => by
    obtain ⟨m, hm, hmin⟩ := ex_min (b :: L) (by simp)
    cases hlt : ltL a m with
    | true =>
      refine ⟨a, List.mem_cons_self .., fun x hx => ?_⟩
      rcases List.mem_cons.1 hx with rfl | hx
      · exact ltL_irrefl x
      · cases hxa : ltL x a with
        | false => rfl
        | true => have := hmin x hx; rw [ltL_trans x a m hxa hlt] at this; cases this
    | false =>
      refine ⟨m, List.mem_cons_of_mem _ hm, fun x hx => ?_⟩
      rcases List.mem_cons.1 hx with rfl | hx
      · exact hlt
      · exact hmin x hx
/-- each stamp is made of one first stamp -/
theorem one_first {c : Nat} (hs : okSize w h = true) (hN : N = w * h) (hG : IsG w h g) (hc : cs ∈ allC c N) : (((allC c N).filter (isF w h N g)).filter (fun f => mkB w h N g f cs)).length = 1 := by
  have hlen := (allC_mem.1 hc).1
  have h1 : Mv.one ∈ g := ((isG_iff hs).1 hG).2.2.2
  obtain ⟨f, hf, hmin⟩ := ex_min (g.map fun m => apl w h m cs N) (by intro e; rw [List.map_eq_nil_iff] at e; rw [e] at h1; cases h1)
  rw [List.mem_map] at hf
  obtain ⟨a, ha, rfl⟩ := hf
  have hah := hG.has a ha
  have hfc := apl_allC hs hN hah hc
  have hmk : ∀ m ∈ g, apl w h m (apl w h a cs N) N = apl w h (aft w h m a) cs N := fun m hm => (apl_comp hs hN (hG.has m hm) hah).symm
  have hF : isF w h N g (apl w h a cs N) = true := (isF_iff hs hG).2 fun m hm => by
    rw [hmk m hm]
    exact hmin _ (List.mem_map_of_mem (hG.comp hs hm ha))
  have hback := apl_back hs hN hlen hah
  refine len_one (a := apl w h a cs N) (List.Pairwise.filter _ (List.Pairwise.filter _ (nodup_of_lt (allC_sorted c N)))) ?_ ?_
  · rw [List.mem_filter, List.mem_filter]
    exact ⟨⟨hfc, hF⟩, mkB_iff.2 ⟨inv w h a, hG.inv_ hs ha, hback.symm⟩⟩
  · intro x hx
    rw [List.mem_filter, List.mem_filter] at hx
    obtain ⟨⟨hxc, hxF⟩, hxm⟩ := hx
    obtain ⟨m, hm, hxe⟩ := mkB_iff.1 hxm
    have hmh := hG.has m hm
    have hxl := (allC_mem.1 hxc).1
    have hx1 := (isF_iff hs hG).1 hxF
    have hF1 := (isF_iff hs hG).1 hF
    have e1 : apl w h (aft w h a m) x N = apl w h a cs N := by rw [apl_comp hs hN hah hmh, ← hxe]
    have e2 : apl w h (inv w h m) cs N = x := by rw [hxe]; exact apl_back hs hN hxl hmh
    have e3 : apl w h (aft w h (inv w h m) (inv w h a)) (apl w h a cs N) N = x := by
      rw [apl_comp hs hN (inv_has hs hmh) (inv_has hs hah), hback, e2]
    have l1 := hx1 _ (hG.comp hs ha hm)
    have l2 := hF1 _ (hG.comp hs (hG.inv_ hs hm) (hG.inv_ hs ha))
    rw [e1] at l1
    rw [e3] at l2
    exact ltL_eq l2 l1
/-- the orbits of the first stamps are all stamps -/
theorem sum_orbits {c : Nat} (hs : okSize w h = true) (hN : N = w * h) (hG : IsG w h g) : sumN (onum w h N c g) ((allC c N).filter (isF w h N g)) = c ^ N := by
  have e := sumN_two (mkB w h N g) (allC c N) ((allC c N).filter (isF w h N g))
  unfold onum
  rw [e, sumN_congr (g := fun _ => 1) (fun d hd => one_first hs hN hG hd), sumN_one, allC_len]
/-- a first stamp is the first of its orbit -/
theorem first_head {c : Nat} (hs : okSize w h = true) (hN : N = w * h) (hG : IsG w h g) (hc : cs ∈ allC c N) (hF : isF w h N g cs = true) {L : List (List Int)} (hL : Orb w h N cs g L) : L.getD 0 [] = cs := by
  have hlen := (allC_mem.1 hc).1
  have h1 : Mv.one ∈ g := ((isG_iff hs).1 hG).2.2.2
  have hm : cs ∈ L := (hL.2 cs).2 ⟨Mv.one, h1, (apl_one hs hN hlen).symm⟩
  cases L with
  | nil => cases hm
  | cons a L =>
    show a = cs
    rcases List.mem_cons.1 hm with e | e
    · exact e.symm
    · have hlt := (List.pairwise_cons.1 hL.1).1 cs e
      obtain ⟨m, hm, he⟩ := (hL.2 a).1 (List.mem_cons_self ..)
      have := (isF_iff hs hG).1 hF m hm
      rw [← he, hlt] at this
      cases this
end
end Go.Proofs.Ytgjanbgehbpciaa
