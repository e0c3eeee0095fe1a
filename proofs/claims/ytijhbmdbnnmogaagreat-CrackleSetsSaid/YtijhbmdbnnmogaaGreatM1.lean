/- What can be reached by steps: the names of darts as mathematics. · Walks: isBetween, opposite, turn, follow, edges. · Walks: Valid. -/
import Derived.Test.YtijhbmdbnnmogaaGreatM0
import Derived.RegionTactic
import Derived.ChangeAlike
namespace Go.Proofs.YtijhbmdbnnmogaaGreat.G
open Go.RowKit

/-- d can be reached from l by the k steps st 0 .. among the first n -/
inductive Rch (n k : Nat) (st : Nat → Nat → Nat) (l : Nat) : Nat → Prop
  | here : l < n → Rch n k st l l
  | step {d i : Nat} : Rch n k st l d → i < k → Rch n k st l (st i d)
/-- the least that reaches -/
def Nm (n k : Nat) (st : Nat → Nat → Nat) (m : Nat → Nat) : Prop := ∀ d, d < n → Rch n k st (m d) d ∧ ∀ l, Rch n k st l d → m d ≤ l
theorem Rch.src {n k l d : Nat} {st : Nat → Nat → Nat} (h : Rch n k st l d) : l < n := by
  induction h with
  | here h => exact h
  | step _ _ ih => exact ih
theorem Rch.lt {n k l d : Nat} {st : Nat → Nat → Nat} (hst : ∀ i, i < k → ∀ d, d < n → st i d < n) (h : Rch n k st l d) : d < n := by
  induction h with
  | here h => exact h
  | step _ hi ih => exact hst _ hi _ ih
theorem Rch.trans {n k l d e : Nat} {st : Nat → Nat → Nat} (h : Rch n k st l d) (g : Rch n k st d e) : Rch n k st l e := by
  induction g with
  | here _ => exact h
  | step _ hi ih => exact ih.step hi
theorem Nm.only {n k : Nat} {st : Nat → Nat → Nat} {m m' : Nat → Nat} (h : Nm n k st m) (h' : Nm n k st m') {d : Nat} (hd : d < n) : m d = m' d := by
  have h1 := (h d hd).2 _ (h' d hd).1
  have h2 := (h' d hd).2 _ (h d hd).1
  omega
/-- how many of the first n are -1 -/
def unv (x : Nat → Int) : Nat → Nat
  | 0 => 0
  | n + 1 => unv x n + if x n = -1 then 1 else 0
theorem unv_le (x : Nat → Int) : ∀ n, unv x n ≤ n
  | 0 => Nat.le_refl _
  | n + 1 => by
    have := unv_le x n
    unfold unv
    split <;> omega
theorem unv_congr {x y : Nat → Int} : ∀ n, (∀ j, j < n → x j = y j) → unv x n = unv y n
  | 0, _ => rfl
  | n + 1, h => by unfold unv; rw [unv_congr n (fun j hj => h j (by omega)), h n (by omega)]
theorem unv_up {x : Nat → Int} {d : Nat} {v : Int} (hx : x d = -1) (hv : v ≠ -1) : ∀ n, d < n → unv (up x d v) n + 1 = unv x n
  | 0, h => by omega
  | n + 1, h => by
    unfold unv
    by_cases e : d = n
    · subst e
      rw [unv_congr d (y := x) (fun j hj => up_ne _ _ (by omega)), up_self, if_neg hv, if_pos hx]
    · have := unv_up hx hv n (by omega)
      rw [up_ne _ _ (show n ≠ d from fun c => e c.symm)]
      omega
/-- all below L are done: who is reached from below has its name, the others none -/
def Dn (n k : Nat) (st : Nat → Nat → Nat) (L : Nat) (x : Nat → Int) : Prop :=
  ∀ d, d < n → (x d = -1 ∧ ∀ l, l < L → ¬ Rch n k st l d) ∨ ∃ l : Nat, l < L ∧ x d = l ∧ Rch n k st l d ∧ ∀ l', Rch n k st l' d → l ≤ l'
theorem Dn.start (n k : Nat) (st : Nat → Nat → Nat) : Dn n k st 0 (fun _ => -1) := fun d _ => .inl ⟨rfl, fun l h => by omega⟩
theorem Dn.congr {n k L : Nat} {st : Nat → Nat → Nat} {x y : Nat → Int} (h : Dn n k st L x) (e : ∀ j, j < n → x j = y j) : Dn n k st L y := fun d hd => by rw [← e d hd]; exact h d hd
theorem Dn.done {n k : Nat} {st : Nat → Nat → Nat} {x : Nat → Int} (h : Dn n k st n x) : ∃ m, Nm n k st m ∧ ∀ d, d < n → x d = (m d : Nat) := by
  refine ⟨fun d => (x d).toNat, fun d hd => ?_, fun d hd => ?_⟩
  · rcases h d hd with ⟨-, h2⟩ | ⟨l, h1, h2, h3, h4⟩
    · exact absurd (Rch.here hd) (h2 d hd)
    · dsimp only; rw [h2, Int.toNat_natCast]; exact ⟨h3, h4⟩
  · rcases h d hd with ⟨-, h2⟩ | ⟨l, h1, h2, h3, h4⟩
    · exact absurd (Rch.here hd) (h2 d hd)
    · dsimp only; rw [h2, Int.toNat_natCast]
/-- while all from L are looked for: the stack s, and of c the steps from j on are still to be taken -/
structure Dg (n k : Nat) (st : Nat → Nat → Nat) (L : Nat) (x : Nat → Int) (s : List Nat) (c j : Nat) : Prop where
  old : ∀ d, d < n → (∃ l, l < L ∧ Rch n k st l d) → ∃ l : Nat, l < L ∧ x d = l ∧ Rch n k st l d ∧ ∀ l', Rch n k st l' d → l ≤ l'
  new : ∀ d, d < n → (∀ l, l < L → ¬ Rch n k st l d) → x d = -1 ∨ (x d = L ∧ Rch n k st L d)
  stk : ∀ e, e ∈ s → e < n ∧ Rch n k st L e
  clo : ∀ d, d < n → x d = L → ∀ i, i < k → (d = c → i < j) → x (st i d) ≠ -1 ∨ st i d ∈ s
  top : x L ≠ -1 ∨ L ∈ s
  cnt : s.length + (k + 1) * unv x n ≤ (k + 1) * n + 1 + j
section
variable {n k L c j : Nat} {st : Nat → Nat → Nat} {x : Nat → Int} {s : List Nat}
theorem Dn.dg (h : Dn n k st L x) (hL : L < n) (c : Nat) : Dg n k st L x [L] c k := by
  refine ⟨fun d hd ⟨l, h1, h2⟩ => ?_, fun d hd hno => ?_, fun e he => ?_, fun d hd hx i hi _ => ?_, .inr (by simp), ?_⟩
  · rcases h d hd with ⟨-, h4⟩ | h4
    · exact absurd h2 (h4 l h1)
    · exact h4
  · rcases h d hd with ⟨h3, -⟩ | ⟨l, h3, -, h5, -⟩
    · exact .inl h3
    · exact absurd h5 (hno l h3)
  · simp at he; subst he; exact ⟨hL, .here hL⟩
  · rcases h d hd with ⟨h3, -⟩ | ⟨l, h3, h4, -⟩
    · omega
    · omega
  · have := unv_le x n
    have := Nat.mul_le_mul_left (k + 1) this
    simp; omega
/-- the last of the stack has a name already -/
theorem Dg.skip {d : Nat} (h : Dg n k st L x (s ++ [d]) c k) (hx : x d ≠ -1) : Dg n k st L x s c k := by
  refine ⟨h.old, h.new, fun e he => h.stk e (by simp [he]), fun a ha hxa i hi hc => ?_, ?_, ?_⟩
  · rcases h.clo a ha hxa i hi hc with h1 | h1
    · exact .inl h1
    · rcases List.mem_append.1 h1 with h2 | h2
      · exact .inr h2
      · simp at h2; left; rw [h2]; exact hx
  · rcases h.top with h1 | h1
    · exact .inl h1
    · rcases List.mem_append.1 h1 with h2 | h2
      · exact .inr h2
      · simp at h2; left; rw [h2]; exact hx
  · have := h.cnt; simp at this; omega
/-- it gets its name -/
theorem Dg.take {d : Nat} (h : Dg n k st L x (s ++ [d]) c k) (hx : x d = -1) : Dg n k st L (up x d L) s d 0 := by
  obtain ⟨hd, hr⟩ := h.stk d (by simp)
  have hno : ∀ l, l < L → ¬ Rch n k st l d := fun l h1 h2 => by
    obtain ⟨l', -, h4, -⟩ := h.old d hd ⟨l, h1, h2⟩
    omega
  have key : ∀ e, x e ≠ -1 ∨ e ∈ s ++ [d] → up x d L e ≠ -1 ∨ e ∈ s := fun e he => by
    by_cases h1 : e = d
    · subst h1; left; rw [up_self]; omega
    · rw [up_ne _ _ h1]
      rcases he with h2 | h2
      · exact .inl h2
      · rcases List.mem_append.1 h2 with h3 | h3
        · exact .inr h3
        · simp at h3; exact absurd h3 h1
  refine ⟨fun a ha hl => ?_, fun a ha hl => ?_, fun e he => h.stk e (by simp [he]), fun a ha hxa i hi hc => ?_, key L h.top, ?_⟩
  · by_cases e : a = d
    · subst e; obtain ⟨l, h1, h2⟩ := hl; exact absurd h2 (hno l h1)
    · rw [up_ne _ _ e]; exact h.old a ha hl
  · by_cases e : a = d
    · subst e; rw [up_self]; exact .inr ⟨rfl, hr⟩
    · rw [up_ne _ _ e]; exact h.new a ha hl
  · by_cases e : a = d
    · have := hc e; omega
    · rw [up_ne _ _ e] at hxa
      exact key _ (h.clo a ha hxa i hi (fun _ => hi))
  · have h1 := h.cnt
    have h2 := unv_up (v := (L : Int)) hx (by omega) n hd
    have h3 : (k + 1) * unv x n = (k + 1) * unv (up x d L) n + (k + 1) := by rw [← h2, Nat.mul_add, Nat.mul_one]
    simp at h1
    omega
/-- a step of it is put onto the stack -/
theorem Dg.push (hst : ∀ i, i < k → ∀ d, d < n → st i d < n) (h : Dg n k st L x s c j) (hc : c < n) (hx : x c = L) (hr : Rch n k st L c) (hj : j < k) : Dg n k st L x (s ++ [st j c]) c (j + 1) := by
  refine ⟨h.old, h.new, fun e he => ?_, fun a ha hxa i hi hi2 => ?_, ?_, ?_⟩
  · rcases List.mem_append.1 he with h1 | h1
    · exact h.stk e h1
    · simp at h1; subst h1; exact ⟨hst j hj c hc, hr.step hj⟩
  · by_cases e : a = c ∧ i = j
    · obtain ⟨rfl, rfl⟩ := e; right; simp
    · rcases h.clo a ha hxa i hi (fun e1 => by have := hi2 e1; rcases Nat.lt_or_ge i j with h2 | h2; exact h2; exact absurd ⟨e1, by omega⟩ e) with h1 | h1
      · exact .inl h1
      · exact .inr (by simp [h1])
  · rcases h.top with h1 | h1
    · exact .inl h1
    · exact .inr (by simp [h1])
  · have := h.cnt; simp; omega
theorem Dg.rest (h : Dg n k st L x s c k) (c' : Nat) : Dg n k st L x s c' k := ⟨h.old, h.new, h.stk, fun d hd hx i hi _ => h.clo d hd hx i hi (fun _ => hi), h.top, h.cnt⟩
/-- nothing is left -/
theorem Dg.done (hst : ∀ i, i < k → ∀ d, d < n → st i d < n) (h : Dg n k st L x [] c k) (hL : L < n) : Dn n k st (L + 1) x := by
  have key : ∀ d, Rch n k st L d → x d ≠ -1 := fun d hr => by
    induction hr with
    | here _ => rcases h.top with h1 | h1
                · exact h1
                · simp at h1
    | @step e i hr hi ih =>
      have he := hr.lt hst
      by_cases h1 : ∃ l, l < L ∧ Rch n k st l e
      · obtain ⟨l, h2, h3⟩ := h1
        obtain ⟨l', -, h5, -⟩ := h.old (st i e) (hst i hi e he) ⟨l, h2, h3.step hi⟩
        omega
      · rcases h.new e he (fun l h2 h3 => h1 ⟨l, h2, h3⟩) with h2 | ⟨h2, -⟩
        · exact absurd h2 ih
        · rcases h.clo e he h2 i hi (fun _ => hi) with h3 | h3
          · exact h3
          · simp at h3
  intro d hd
  by_cases h1 : ∃ l, l < L ∧ Rch n k st l d
  · obtain ⟨l, h2, h3, h4, h5⟩ := h.old d hd h1
    exact .inr ⟨l, by omega, h3, h4, h5⟩
  · have hno : ∀ l, l < L → ¬ Rch n k st l d := fun l h2 h3 => h1 ⟨l, h2, h3⟩
    by_cases h2 : Rch n k st L d
    · rcases h.new d hd hno with h3 | ⟨h3, -⟩
      · exact absurd h3 (key d h2)
      · refine .inr ⟨L, by omega, h3, h2, fun l' h4 => ?_⟩
        rcases Nat.lt_or_ge l' L with h5 | h5
        · exact absurd h4 (hno l' h5)
        · exact h5
    · rcases h.new d hd hno with h3 | ⟨-, h3⟩
      · refine .inl ⟨h3, fun l h4 h5 => ?_⟩
        rcases Nat.lt_or_ge l L with h6 | h6
        · exact hno l h6 h5
        · obtain rfl : l = L := by omega
          exact h2 h5
      · exact absurd h3 h2
end
end Go.Proofs.YtijhbmdbnnmogaaGreat.G
namespace Go.Proofs.YtijhbmdbnnmogaaGreat.G
open Go.RowKit

theorem isBetween_any (x lo hi : Int) (W : World) : Calls Tryz.prog 106 #[.int .i64 x, .int .i64 lo, .int .i64 hi] W fun e W' => e = .returned (.bool (decide (lo ≤ x) && decide (x ≤ hi))) ∧ W = W' := by
  by_cases h : lo ≤ x
  · rw [decide_eq_true h, Bool.true_and]
    go_enter Tryz.func106, Tryz.ntmps106
    go_wp2
    all_goals (go_ret; exact ⟨by rfl, rfl⟩)
  · rw [decide_eq_false h, Bool.false_and]
    go_enter Tryz.func106, Tryz.ntmps106
    go_wp2
    all_goals (go_ret; exact ⟨rfl, rfl⟩)

/-- the other dart of the edge -/
def rev (j : Nat) : Nat := if j % 2 = 0 then j + 1 else j - 1
theorem rev_rev (j : Nat) : rev (rev j) = j := by unfold rev; split <;> split <;> omega
theorem rev_lt {n j : Nat} (hn : n % 2 = 0) (h : j < n) : rev j < n := by unfold rev; split <;> omega
theorem xor_one (a : Nat) : a ^^^ 1 = rev a := by
  have h1 : (a ^^^ 1) / 2 = a / 2 := by rw [Nat.xor_div_two]; exact Nat.xor_zero _
  have h2 : (a ^^^ 1) % 2 = (a + 1) % 2 := by
    have h := Nat.testBit_xor a 1 0
    rw [Nat.testBit_zero, Nat.testBit_zero, Nat.testBit_zero] at h
    rcases Nat.mod_two_eq_zero_or_one a with e | e
    · rw [e] at h; have : (a ^^^ 1) % 2 = 1 := by simpa using h
      omega
    · rw [e] at h; have h9 : ¬ (a ^^^ 1) % 2 = 1 := by intro h8; rw [h8] at h; revert h; decide
      have := Nat.mod_two_eq_zero_or_one (a ^^^ 1)
      omega
  unfold rev
  split <;> omega
theorem bits_rev (a : Nat) (ha : a < 1000000) : bits .xor .i64 (a : Int) 1 = ((rev a : Nat) : Int) := by
  have hr : rev a < 1000001 := by unfold rev; split <;> omega
  have h1 : (BitVec.ofInt 64 (a : Int)).toNat = a := by
    rw [BitVec.ofInt_natCast, BitVec.toNat_ofNat]; exact Nat.mod_eq_of_lt (by omega)
  show IntKind.i64.wrap ((BitVec.ofInt 64 (a : Int) ^^^ BitVec.ofInt 64 (1 : Int)).toNat : Int) = _
  rw [BitVec.toNat_xor, h1]
  have h2 : (BitVec.ofInt 64 (1 : Int)).toNat = 1 := by decide
  rw [h2, xor_one]
  exact IntWalk.i64_in _ (by omega)
theorem opposite_any (j : Nat) (W : World) (hj : j < 1000000) : Calls Tryz.prog 115 #[.int .i64 j] W fun e W' => e = .returned (.int .i64 (rev j : Nat)) ∧ W = W' := by
  have hb := bits_rev j hj
  go_enter Tryz.func115, Tryz.ntmps115
  go_wp2
  go_ret
  exact ⟨by simp, rfl⟩
theorem Vl.at {W X : World} {A : Option Addr} {n m c : Nat} {f : Nat → Value} (h : Vl W (.slice A n c) m f) (e : Ext W X) {k : Nat} (hk : k < m) : ∃ b off, A = some ⟨b, off, none⟩ ∧ b < X.heap.size ∧ X.cell? ⟨b, off + k, none⟩ = some (f k) := by
  obtain ⟨A', c', e', _, _, h3⟩ := h
  injection e' with e1 e2 e3
  subst e1
  obtain ⟨b, off, rfl, hb, hc⟩ := h3 (by omega)
  exact ⟨b, off, rfl, Nat.lt_of_lt_of_le hb e.size, keepAt e hb (hc k hk)⟩
/-- a block of one cell -/
theorem uno {w : World} {b : Nat} {t : TypeId} {x0 : Value} (h : w.heap[b]? = some (.cells #[x0] t (0, 0))) : w.cell? ⟨b, 0, none⟩ = some x0 ∧ (∀ o, w.frozen? ⟨b, o, none⟩ = false) ∧ b < w.heap.size :=
  ⟨(cell_of_row w b 0 _ t (0, 0) h).trans rfl, fun o => by simp [World.frozen?, h], (Array.getElem?_eq_some_iff.1 h).1⟩

set_option maxHeartbeats 4000000 in
set_option maxRecDepth 100000 in
theorem edges_any (n : Nat) (f : Nat → Int) (NV : Value) (W : World) (hN : Il W NV n f) (hn : n ≤ 1000) :
    Calls Tryz.prog 73 #[.agg #[NV]] W fun e W' => e = .returned (.int .i64 ((n / 2 : Nat) : Int)) ∧ Ext W W' := by
  obtain ⟨A, c, rfl, hac, hcm, -⟩ := hN
  obtain ⟨q, hq⟩ : ∃ q, q = n / 2 := ⟨_, rfl⟩
  have hd : ((n : Int)).tdiv 2 = (q : Int) := by rw [hq]; exact (Int.ofNat_tdiv n 2).symm
  rw [← hq]
  have hq2 : q ≤ 1000 := by omega
  have HQ := Lib.hid hq; clear hq
  go_enter Tryz.func73, Tryz.ntmps73
  go_upto_region 1 with fail
  have bb := al1 W (.cells #[.slice A n c] 29)
  obtain ⟨m0, -, -⟩ := uno (heap_alloc_new W (.cells #[.slice A n c] 29))
  generalize W.alloc (.cells #[.slice A n c] 29) = W1 at *
  have HB : Hid (Ext W W1) := Lib.hid bb
  clear bb
  go_wp2
  go_ret
  exact ⟨rfl, HB.out⟩

set_option maxHeartbeats 4000000 in
set_option maxRecDepth 100000 in
theorem turn_any (n : Nat) (f : Nat → Int) (NV : Value) (d : Nat) (W : World) (hN : Il W NV n f) (hd : d < n) :
    Calls Tryz.prog 108 #[.agg #[NV], .int .i64 d] W fun e W' => e = .returned (.int .i64 (f d)) ∧ Ext W W' := by
  have HN := Lib.hid hN
  obtain ⟨A, c, rfl, hac, hcm, -⟩ := hN
  go_enter Tryz.func108, Tryz.ntmps108
  go_upto_region 1 with fail
  have bb := al1 W (.cells #[.slice A n c] 29)
  obtain ⟨m0, -, -⟩ := uno (heap_alloc_new W (.cells #[.slice A n c] 29))
  generalize W.alloc (.cells #[.slice A n c] 29) = W1 at *
  have HB : Hid (Ext W W1) := Lib.hid bb
  obtain ⟨b1, o1, rfl, -, e1⟩ := Vl.at HN.out bb hd
  clear bb
  go_wp2
  go_ret
  exact ⟨rfl, HB.out⟩

set_option maxHeartbeats 4000000 in
set_option maxRecDepth 100000 in
theorem follow_any (n : Nat) (f : Nat → Int) (NV : Value) (d : Nat) (W : World) (hN : Il W NV n f) (hd : d < n) (hn : n ≤ 1000) (hn2 : n % 2 = 0) :
    Calls Tryz.prog 114 #[.agg #[NV], .int .i64 d] W fun e W' => e = .returned (.int .i64 (f (rev d))) ∧ Ext W W' := by
  have HN := Lib.hid hN
  obtain ⟨A, c, rfl, hac, hcm, -⟩ := hN
  have hr : rev d < n := rev_lt hn2 hd
  obtain ⟨r, hr2⟩ : ∃ r, r = rev d := ⟨_, rfl⟩
  have HR := Lib.hid hr2
  rw [← hr2] at hr ⊢
  clear hr2
  go_enter Tryz.func114, Tryz.ntmps114
  go_upto_region 1 with fail
  have bb := al1 W (.cells #[.slice A n c] 29)
  obtain ⟨m0, -, mz⟩ := uno (heap_alloc_new W (.cells #[.slice A n c] 29))
  generalize W.alloc (.cells #[.slice A n c] 29) = W1 at *
  have HB : Hid (Ext W W1) := Lib.hid bb
  have HM := Lib.hid m0
  obtain ⟨b1, o1, rfl, hb1, e1⟩ := Vl.at HN.out bb hr
  clear bb
  refine wp_region_noPanic ?_
  refine wp_split (S := fun X => Ext W1 X) 4 (by kernel_rfl) (by kernel_rfl) (Ext.drw (Ext.refl _)) ?_
  simp only [List.take_succ_cons, List.take_zero, List.drop_succ_cons, List.drop_zero]
  refine take_at 0 (some 5) (.pointer (some ⟨W.heap.size, 0, none⟩)) rfl rfl (by kernel_rfl) (by kernel_rfl) (by kernel_rfl) (fun _ _ _ h => h) (Or.inl ⟨by rfl, fun w' hSw => ?_⟩) (Ext.drw (Ext.refl _)) ?_
  · skip
    try clear hSw
    go_simp
    all_goals (with_reducible rfl)
  try simp only [Act.put, List.setIfInBounds_toArray, List.set_cons_zero, List.set_cons_succ]
  refine take_at 1 (some 6) (.slice (some ⟨b1, o1, none⟩) n c) rfl rfl (by kernel_rfl) (by kernel_rfl) (by kernel_rfl) (fun _ _ _ h => h) (Or.inl ⟨by rfl, fun w' hSw => ?_⟩) (Ext.drw (Ext.refl _)) ?_
  · have z0 := keepAt hSw mz HM.out
    try clear hSw
    go_simp
    all_goals (with_reducible rfl)
  try simp only [Act.put, List.setIfInBounds_toArray, List.set_cons_zero, List.set_cons_succ]
  refine take_at 2 (some 7) (.int .i64 d) rfl rfl (by kernel_rfl) (by kernel_rfl) (by kernel_rfl) (fun _ _ _ h => h) (Or.inl ⟨by rfl, fun w' hSw => ?_⟩) (Ext.drw (Ext.refl _)) ?_
  · skip
    try clear hSw
    go_simp
    all_goals (with_reducible rfl)
  try simp only [Act.put, List.setIfInBounds_toArray, List.set_cons_zero, List.set_cons_succ]
  refine wpAnyH_ready (rs := [3]) (by kernel_rfl) (by simp) ?_
  refine AllReadyH.cons rfl (fun K hK => ?_) AllReadyH.nil
  go_simp
  refine (opposite_any d _ (by omega)).mono ?_
  rintro e v3 ⟨rfl, rfl⟩
  rw [← HR.out]
  refine hK.out _ _ (Ext.drw (Ext.refl _)) (fun _ => ?_)
  clear hK K
  try simp only [Act.put, List.setIfInBounds_toArray, List.set_cons_zero, List.set_cons_succ]
  refine wpAnyH_done (by kernel_rfl) ?_ _
  refine cut_normal ?_
  have e2 : W1.drew.cell? ⟨b1, o1 + r, none⟩ = some (.int .i64 (f r)) := e1
  have hx : Hid (Ext W W1.drew) := Lib.hid HB.out.drw
  clear e1
  generalize W1.drew = W2 at *
  go_wp2_with fail
  refine NoPanic.normal ?_
  go_wp2
  go_ret
  exact ⟨rfl, hx.out⟩
end Go.Proofs.YtijhbmdbnnmogaaGreat.G
namespace Go.Proofs.YtijhbmdbnnmogaaGreat.G
open Go.RowKit

/-- is v one of the first k? -/
def sn (f : Nat → Int) (k : Nat) (v : Nat) : Bool := (List.range k).any fun j => decide (f j = (v : Int))
theorem sn_succ (f : Nat → Int) (k v : Nat) : sn f (k + 1) v = (sn f k v || decide (f k = (v : Int))) := by simp [sn, List.range_succ]
theorem sn_true {f : Nat → Int} {k v : Nat} : sn f k v = true ↔ ∃ j, j < k ∧ f j = (v : Int) := by simp [sn]
/-- may f k stand there? -/
def okD (n : Nat) (f : Nat → Int) (k : Nat) : Bool := decide (0 ≤ f k) && decide (f k ≤ (n : Int) - 1) && !sn f k (f k).toNat
/-- is it a map? -/
def vMap (n : Nat) (f : Nat → Int) : Bool := decide (n % 2 = 0 ∧ n ≤ 80) && (List.range n).all (okD n f)
theorem vMap_iff {n : Nat} {f : Nat → Int} : vMap n f = true ↔ (n % 2 = 0 ∧ n ≤ 80) ∧ ∀ k, k < n → okD n f k = true := by simp [vMap]
theorem okD_iff {n : Nat} {f : Nat → Int} {k : Nat} : okD n f k = true ↔ (0 ≤ f k ∧ f k ≤ (n : Int) - 1) ∧ sn f k (f k).toNat = false := by simp [okD]
/-- what a map is -/
structure Mp (n : Nat) (f : Nat → Int) : Prop where
  even : n % 2 = 0
  le : n ≤ 80
  zero : ∀ k, k < n → 0 ≤ f k
  lt : ∀ k, k < n → f k < n
  inj : ∀ j k, j < n → k < n → f j = f k → j = k
theorem vMap_mp {n : Nat} {f : Nat → Int} (h : vMap n f = true) : Mp n f := by
  obtain ⟨⟨h1, h2⟩, h3⟩ := vMap_iff.1 h
  have key : ∀ j k, j < k → k < n → f j ≠ f k := fun j k hj hk e => by
    obtain ⟨⟨h4, -⟩, h5⟩ := okD_iff.1 (h3 k hk)
    have : sn f k (f k).toNat = true := sn_true.2 ⟨j, hj, by omega⟩
    rw [h5] at this; cases this
  refine ⟨h1, h2, fun k hk => (okD_iff.1 (h3 k hk)).1.1, fun k hk => by have := (okD_iff.1 (h3 k hk)).1.2; omega, fun j k hj hk e => ?_⟩
  rcases Nat.lt_trichotomy j k with h | h | h
  · exact absurd e (key j k h hk)
  · exact h
  · exact absurd e.symm (key k j h hj)

set_option maxHeartbeats 4000000 in
set_option maxRecDepth 100000 in
theorem validS_any (n : Nat) (f : Nat → Int) (NV : Value) (W : World) (hN : Il W NV n f) :
    Calls Tryz.prog 42 #[.agg #[NV]] W fun e W' => e = .returned (.bool (vMap n f)) ∧ Ext W W' := by
  obtain ⟨r, hr⟩ : ∃ r, r = vMap n f := ⟨_, rfl⟩
  rw [← hr]
  have HR := Lib.hid hr; clear hr
  have HN := Lib.hid hN
  obtain ⟨A, c, rfl, hac, hcm, -⟩ := hN
  go_enter Tryz.func42, Tryz.ntmps42
  go_upto_region 1 with fail
  have bb := al1 W (.cells #[.slice A n c] 29)
  obtain ⟨m0, -, mz⟩ := uno (heap_alloc_new W (.cells #[.slice A n c] 29))
  generalize W.alloc (.cells #[.slice A n c] 29) = W1 at *
  have HB : Hid (Ext W W1) := Lib.hid bb
  have HM := Lib.hid m0
  clear bb
  obtain ⟨q, hq⟩ : ∃ q, q = n % 2 := ⟨_, rfl⟩
  have hd : ((n : Int)).tmod 2 = (q : Int) := by rw [hq]; exact (Int.ofNat_tmod n 2).symm
  have hq2 : q ≤ 1 := by omega
  have HQ := Lib.hid hq; clear hq
  have hno : ¬ (n % 2 = 0 ∧ n ≤ 80) → r = false := fun h => by rw [HR.out]; unfold vMap; rw [decide_eq_false h, Bool.false_and]
  have HNO := Lib.hid hno; clear hno
  by_cases hq0 : q = 0
  · by_cases hn80 : n ≤ 80
    · have hm1 : ∀ w, (Instr.makeSlice 25 (.int .i64 (n : Int)) (.int .i64 (n : Int))).run Tryz.prog w = .ok (.slice (some ⟨w.heap.size, 0, none⟩) n n) (w.alloc (.cells (Array.ofFn fun _ : Fin n => .bool false) 4)) := fun w => make_one 25 4 _ 1 Tryz.underlying25 info4 rfl (by omega) n (by omega) w
      have hq0' : (q : Int) = 0 := by omega
      rw [hq0'] at hd
      go_upto_region 5 with fail
      have HZ : Hid (n % 2 = 0) := Lib.hid (by rw [← HQ.out]; exact hq0)
      have y1 : BB (W1.alloc (.cells (Array.ofFn fun _ : Fin n => Value.bool false) 4)) W1.heap.size n (fun _ => false) := heap_alloc_new W1 _
      have e1 : Ext W1 (W1.alloc (.cells (Array.ofFn fun _ : Fin n => Value.bool false) 4)) := Ext.alc (Ext.refl _) _
      obtain ⟨g, hg⟩ : ∃ g, g = W1.heap.size := ⟨_, rfl⟩
      rw [← hg] at y1
      rw [← hg]
      have hgW : W1.heap.size ≤ g := by omega
      have Y1 := Lib.hid (And.intro y1 e1)
      have m1 := keepAt e1 mz m0
      clear y1 e1 hg m0 hd hq2 hq0 hq0'
      generalize W1.alloc (.cells (Array.ofFn fun _ : Fin n => Value.bool false) 4) = W2 at *
      go_wp2_with fail
      clear m1
      go_loopw [22] (fun i wr => ∃ k : Nat, i = .int .i64 k ∧ k ≤ n ∧ Hid ((∀ j, j < k → okD n f j = true) ∧ BB wr g n (sn f k) ∧ Ext W1 wr)) (fun i _ => n - (intOf i).toNat)
      case atStart => exact ⟨0, rfl, Nat.zero_le _, Lib.hid ⟨fun j hj => by omega, Bk.congr Y1.out.1 (fun j _ => by simp [sn]), Y1.out.2⟩⟩
      case round =>
        clear Y1
        obtain ⟨k, rfl, hk, hin⟩ := hrel
        by_cases hlt : k < n
        · obtain ⟨b1, o1, rfl, -, e1⟩ := Vl.at HN.out (HB.out.trans hin.out.2.2) hlt
          have hbad : okD n f k = false → r = false := fun h => by
            rw [HR.out]
            cases hc : vMap n f
            · rfl
            · rw [(vMap_iff.1 hc).2 k hlt] at h; cases h
          have HBAD := Lib.hid hbad; clear hbad
          obtain ⟨x, hx⟩ : ∃ x, x = f k := ⟨_, rfl⟩
          rw [← hx] at e1
          have HX := Lib.hid hx; clear hx
          by_cases h1 : 0 ≤ x ∧ x ≤ (n : Int) - 1
          · obtain ⟨h2, h3⟩ := h1
            obtain ⟨v, rfl⟩ : ∃ v : Nat, x = v := ⟨x.toNat, by omega⟩
            have hvn : v < n := by omega
            have c4 := Bk.cell hin.out.2.1 hvn
            have f4 := Bk.free hin.out.2.1 v
            have hb1 : (decide ((0 : Int) ≤ (v : Int)) && decide ((v : Int) ≤ (n : Int) - 1)) = true := by rw [decide_eq_true h2, decide_eq_true h3]; rfl
            cases hs : sn f k v
            · have hok : okD n f k = true := okD_iff.2 ⟨by rw [← HX.out]; exact ⟨h2, h3⟩, by rw [← HX.out, Int.toNat_natCast]; exact hs⟩
              rw [hs] at c4
              have HOK := Lib.hid hok
              clear hok hs
              go_wp2_with fail
              refine (isBetween_any _ _ _ _).mono ?_
              rintro e w3 ⟨rfl, rfl⟩
              rw [hb1]
              clear hb1
              go_wp2
              go_roundw
              case rel =>
                refine ⟨k + 1, by go_num, by omega, Lib.hid ⟨fun j hj => ?_, Bk.congr (BB.set_ hin.out.2.1 v true) (fun j _ => ?_), hin.out.2.2.sc hgW⟩⟩
                · by_cases e : j = k
                  · subst e; exact HOK.out
                  · exact hin.out.1 j (by omega)
                · congr 1
                  rw [sn_succ, ← HX.out]
                  by_cases e : j = v
                  · subst e; rw [up_self]; simp
                  · rw [up_ne _ _ e, decide_eq_false (fun c => e (by omega)), Bool.or_false]
              case measure => simp [intOf]; omega
            · have hok : r = false := HBAD.out (by
                cases hc : okD n f k
                · rfl
                · have := (okD_iff.1 hc).2; rw [← HX.out, Int.toNat_natCast, hs] at this; cases this)
              rw [hs] at c4
              have HOK := Lib.hid hok
              clear hok hs
              go_wp2_with fail
              refine (isBetween_any _ _ _ _).mono ?_
              rintro e w3 ⟨rfl, rfl⟩
              rw [hb1]
              clear hb1
              go_wp2
              go_ret
              exact ⟨by rw [HOK.out]; rfl, HB.out.trans hin.out.2.2⟩
          · have hok : r = false := HBAD.out (by
              cases hc : okD n f k
              · rfl
              · exact absurd (by rw [HX.out]; exact (okD_iff.1 hc).1) h1)
            have hb1 : (decide ((0 : Int) ≤ x) && decide (x ≤ (n : Int) - 1)) = false := by
              cases hc : (decide ((0 : Int) ≤ x) && decide (x ≤ (n : Int) - 1))
              · rfl
              · exact absurd (by simpa using hc) h1
            have HOK := Lib.hid hok
            clear hok h1
            go_wp2_with fail
            refine (isBetween_any _ _ _ _).mono ?_
            rintro e w3 ⟨rfl, rfl⟩
            rw [hb1]
            clear hb1
            go_wp2
            go_ret
            exact ⟨by rw [HOK.out]; rfl, HB.out.trans hin.out.2.2⟩
        · obtain rfl : k = n := by omega
          have hok : r = true := by rw [HR.out]; exact vMap_iff.2 ⟨⟨HZ.out, hn80⟩, hin.out.1⟩
          have HOK := Lib.hid hok
          clear hok
          go_wp2
          go_ret
          exact ⟨by rw [HOK.out]; rfl, HB.out.trans hin.out.2.2⟩
    · have hq0' : (q : Int) = 0 := by omega
      rw [hq0'] at hd
      have hok : r = false := HNO.out (fun h => hn80 h.2)
      have HOK := Lib.hid hok
      clear hok
      go_wp2
      go_ret
      exact ⟨by rw [HOK.out]; rfl, HB.out⟩
  · have hok : r = false := HNO.out (fun h => hq0 (by rw [HQ.out]; exact h.1))
    have HOK := Lib.hid hok
    obtain rfl : q = 1 := by omega
    clear hok
    go_wp2
    go_ret
    exact ⟨by rw [HOK.out]; rfl, HB.out⟩
end Go.Proofs.YtijhbmdbnnmogaaGreat.G
