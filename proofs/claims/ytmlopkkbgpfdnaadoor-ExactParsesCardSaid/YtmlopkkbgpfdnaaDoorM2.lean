/- Decimal digits, as mathematics. · Walks: strconv.FormatUint to the base 10; writing on a builder. · Walks: naturalOf, natural, twoTo. · Walks: minus. · Walks: compare, order. · Arithmetic of long division with words as digits: a guessed digit is right, or one too high. · Plain mathematics of long division, words to the base 2^32. · Plain mathematics: shifts by less than a word, division by a word or word by word. · Walks: shifts by less than a word. -/
import Derived.Lib.ItoaNum
import Derived.Test.YtmlopkkbgpfdnaaDoorM1
import Derived.Lib.ItoaMem
import Derived.Lib.AppendIntMem
import Derived.BigCall
import Derived.BigGuard
import Derived.Test.YtmlopkkbgpfdnaaDoorM0
import Derived.Laws.BitsAllLaws
import Derived.Deep.QuietTactic
import Derived.BigQuiet
import Derived.Deep.RegionWith
import Derived.StillTailTactics
import Derived.BigRegion
import Derived.IntWalk

namespace Go.Proofs.YtmlopkkbgpfdnaaDoor
open Go.Lib (decDigits nDigits)
abbrev dec := decDigits

theorem dec_small {n : Nat} (h : n < 10) : dec n = [UInt8.ofNat (48 + n)] := by unfold dec; rw [decDigits, dif_pos h]
theorem dec_big {n : Nat} (h : ¬ n < 10) : dec n = dec (n / 10) ++ [UInt8.ofNat (48 + n % 10)] := by unfold dec; rw [decDigits, dif_neg h]
theorem dec_ne (n : Nat) : dec n ≠ [] := by
  by_cases h : n < 10
  · rw [dec_small h]; simp
  · rw [dec_big h]; simp

/-- the digits of g in k places -/
def fw : Nat → Nat → List UInt8
  | 0, _ => []
  | k + 1, g => fw k (g / 10) ++ [UInt8.ofNat (48 + g % 10)]

theorem fw_length (k g : Nat) : (fw k g).length = k := by
  induction k generalizing g with
  | zero => rfl
  | succ k ih => simp [fw, ih]

theorem dec_split (k n : Nat) (h : 0 < n / 10 ^ k) : dec n = dec (n / 10 ^ k) ++ fw k (n % 10 ^ k) := by
  induction k generalizing n with
  | zero => simp [fw]
  | succ k ih =>
    have e1 : n / 10 ^ (k + 1) = n / 10 / 10 ^ k := by rw [Nat.pow_succ, Nat.mul_comm, Nat.div_div_eq_div_mul]
    have hn : ¬ n < 10 := by
      intro hn
      rw [e1, Nat.div_eq_of_lt (a := n) hn] at h
      simp at h
    have e2 : n % 10 ^ (k + 1) / 10 = n / 10 % 10 ^ k := by
      rw [Nat.pow_succ, Nat.mul_comm, Nat.mod_mul_right_div_self]
    have e3 : n % 10 ^ (k + 1) % 10 = n % 10 := by
      rw [Nat.pow_succ]
      exact Nat.mod_mod_of_dvd _ ⟨10 ^ k, Nat.mul_comm _ _⟩
    rw [dec_big hn, ih (n / 10) (by rw [← e1]; exact h), e1, fw, e2, e3, List.append_assoc]

theorem fw_zero (k : Nat) : fw k 0 = List.replicate k 48 := by
  induction k with
  | zero => rfl
  | succ k ih => rw [fw, Nat.zero_div, ih, List.replicate_succ']; rfl

theorem dec_len_le {g k : Nat} (h : g < 10 ^ k) (hk : 1 ≤ k) : (dec g).length ≤ k := by
  induction k generalizing g with
  | zero => omega
  | succ k ih =>
    by_cases hg : g < 10
    · rw [dec_small hg]; simp
    · rw [dec_big hg]
      have hk1 : 1 ≤ k := by
        rcases Nat.eq_zero_or_pos k with rfl | h'
        · simp at h; omega
        · exact h'
      have := ih (g := g / 10) (by rw [Nat.pow_succ] at h; omega) hk1
      simp; omega

theorem fw_dec {g k : Nat} (h : g < 10 ^ k) (hk : 1 ≤ k) : fw k g = List.replicate (k - (dec g).length) 48 ++ dec g := by
  induction k generalizing g with
  | zero => omega
  | succ k ih =>
    by_cases hg : g < 10
    · rw [fw, Nat.div_eq_of_lt hg, fw_zero, dec_small hg, Nat.mod_eq_of_lt hg]; simp
    · have hk1 : 1 ≤ k := by
        rcases Nat.eq_zero_or_pos k with rfl | h'
        · simp at h; omega
        · exact h'
      rw [fw, ih (g := g / 10) (by rw [Nat.pow_succ] at h; omega) hk1, dec_big hg]
      simp [List.append_assoc]

theorem snocInd {α : Type} {p : List α → Prop} (h0 : p []) (h1 : ∀ l c, p l → p (l ++ [c])) (l : List α) : p l := by
  have h : ∀ n, ∀ l : List α, l.length = n → p l := by
    intro n
    induction n with
    | zero => intro l hl; rw [List.length_eq_zero_iff.1 hl]; exact h0
    | succ n ih =>
      intro l hl
      rcases List.eq_nil_or_concat l with rfl | ⟨t, c, rfl⟩
      · exact h0
      · rw [List.concat_eq_append] at hl ⊢
        exact h1 t c (ih t (by simpa using hl))
  exact h _ l rfl

theorem head_append {α : Type} (a b : List α) (h : a ≠ []) : (a ++ b).head? = a.head? := by
  cases a with
  | nil => exact absurd rfl h
  | cons x t => rfl

/-- what the digits stand for -/
def ofD (l : List UInt8) : Nat := l.foldl (fun a c => 10 * a + (c.toNat - 48)) 0
def isD (c : UInt8) : Prop := 48 ≤ c.toNat ∧ c.toNat ≤ 57

theorem ofD_nil : ofD [] = 0 := rfl
theorem ofD_snoc (l : List UInt8) (c : UInt8) : ofD (l ++ [c]) = 10 * ofD l + (c.toNat - 48) := by simp [ofD]
theorem ofD_append (a b : List UInt8) : ofD (a ++ b) = ofD a * 10 ^ b.length + ofD b := by
  refine snocInd (p := fun b => ofD (a ++ b) = ofD a * 10 ^ b.length + ofD b) ?_ (fun b c ih => ?_) b
  · simp [ofD_nil]
  · rw [← List.append_assoc, ofD_snoc, ofD_snoc, ih, List.length_append, List.length_singleton, Nat.pow_succ]
    rw [Nat.mul_add, ← Nat.mul_assoc (ofD a), Nat.mul_comm _ 10]; omega
theorem ofD_lt (l : List UInt8) (h : ∀ c ∈ l, isD c) : ofD l < 10 ^ l.length := by
  revert h
  refine snocInd (p := fun l => (∀ c ∈ l, isD c) → ofD l < 10 ^ l.length) ?_ (fun b c ih h => ?_) l
  · simp [ofD_nil]
  · rw [ofD_snoc, List.length_append, List.length_singleton, Nat.pow_succ]
    have h1 := ih (fun x hx => h x (by simp [hx]))
    have h2 := (h c (by simp)).2
    omega

theorem digit_toNat {d : Nat} (h : d < 10) : (UInt8.ofNat (48 + d)).toNat = 48 + d := by
  simp [UInt8.toNat_ofNat']; omega
theorem isD_digit {d : Nat} (h : d < 10) : isD (UInt8.ofNat (48 + d)) := by rw [isD, digit_toNat h]; omega
theorem ofNat_digit {c : UInt8} (h : isD c) : UInt8.ofNat (48 + (c.toNat - 48)) = c := by
  have e : 48 + (c.toNat - 48) = c.toNat := by have := h.1; omega
  rw [e]; simp

theorem dec_isD (n : Nat) : ∀ c ∈ dec n, isD c := by
  induction n using Nat.strongRecOn with
  | _ n ih =>
    by_cases h : n < 10
    · rw [dec_small h]; intro c hc; rw [List.mem_singleton] at hc; subst hc; exact isD_digit h
    · rw [dec_big h]; intro c hc
      rcases List.mem_append.1 hc with h1 | h1
      · exact ih (n / 10) (by omega) c h1
      · rw [List.mem_singleton] at h1; subst h1; exact isD_digit (Nat.mod_lt _ (by omega))
theorem ofD_dec (n : Nat) : ofD (dec n) = n := by
  induction n using Nat.strongRecOn with
  | _ n ih =>
    by_cases h : n < 10
    · rw [dec_small h]
      simp only [ofD, List.foldl_cons, List.foldl_nil, digit_toNat h]
      omega
    · rw [dec_big h, ofD_snoc, ih (n / 10) (by omega), digit_toNat (Nat.mod_lt _ (by omega))]
      omega
/-- digits with no zero at the front but that of 0 itself -/
def canon (l : List UInt8) : Prop := l ≠ [] ∧ (∀ c ∈ l, isD c) ∧ (l.head? = some 48 → l.length = 1)

theorem dec_head (n : Nat) (h : 0 < n) : (dec n).head? ≠ some 48 := by
  induction n using Nat.strongRecOn with
  | _ n ih =>
    by_cases h1 : n < 10
    · rw [dec_small h1]
      simp only [List.head?_cons, ne_eq, Option.some.injEq]
      intro e
      have := congrArg UInt8.toNat e
      rw [digit_toNat h1] at this
      simp at this; omega
    · rw [dec_big h1, head_append _ _ (dec_ne _)]
      exact ih (n / 10) (by omega) (by omega)
theorem dec_canon (n : Nat) : canon (dec n) := by
  refine ⟨dec_ne n, dec_isD n, fun h => ?_⟩
  rcases Nat.eq_zero_or_pos n with rfl | h0
  · rw [dec_small (by omega)]; rfl
  · exact absurd h (dec_head n h0)

theorem ofD_pos (l : List UInt8) (h : ∀ c ∈ l, isD c) (hn : l ≠ []) (hh : l.head? ≠ some 48) : 0 < ofD l := by
  cases l with
  | nil => exact absurd rfl hn
  | cons c t =>
    have e : ofD (c :: t) = ofD [c] * 10 ^ t.length + ofD t := ofD_append [c] t
    have hc := h c (by simp)
    have : 0 < ofD [c] := by
      simp only [ofD, List.foldl_cons, List.foldl_nil]
      simp only [List.head?_cons, ne_eq, Option.some.injEq] at hh
      have : c.toNat ≠ 48 := fun e => hh (UInt8.toNat_inj.1 (by rw [e]; rfl))
      have := hc.1
      omega
    have h2 : 0 < ofD [c] * 10 ^ t.length := Nat.mul_pos this (Nat.pow_pos (by omega))
    omega

theorem dec_ofD (l : List UInt8) (h : canon l) : dec (ofD l) = l := by
  revert h
  refine snocInd (p := fun l => canon l → dec (ofD l) = l) (fun h => absurd rfl h.1) (fun t c ih h => ?_) l
  · obtain ⟨_, hd, hh⟩ := h
    have hc := hd c (by simp)
    have hd' : ∀ x ∈ t, isD x := fun x hx => hd x (by simp [hx])
    · by_cases ht : t = []
      · subst ht
        have e : ofD ([] ++ [c]) = c.toNat - 48 := by simp [ofD]
        have := hc.1; have := hc.2
        rw [e, dec_small (by omega), ofNat_digit hc]; rfl
      · have hne : t.head? ≠ some 48 := by
          intro e
          have := hh (by rw [head_append _ _ ht]; exact e)
          rw [List.length_append, List.length_singleton] at this
          have h0 : 0 < t.length := List.length_pos_iff.2 ht
          omega
        have hp := ofD_pos t hd' ht hne
        have ih' := ih ⟨ht, hd', fun e => absurd e hne⟩
        have := hc.1; have := hc.2
        have e : ofD (t ++ [c]) = 10 * ofD t + (c.toNat - 48) := ofD_snoc t c
        rw [e, dec_big (by omega), show (10 * ofD t + (c.toNat - 48)) / 10 = ofD t by omega, show (10 * ofD t + (c.toNat - 48)) % 10 = c.toNat - 48 by omega, ih', ofNat_digit hc]

/-- one more group of nine digits -/
theorem dec_group (n : Nat) (h : 0 < n / 1000000000) : dec n = dec (n / 1000000000) ++ (List.replicate (9 - (dec (n % 1000000000)).length) 48 ++ dec (n % 1000000000)) := by
  have e : (1000000000 : Nat) = 10 ^ 9 := by decide
  rw [e] at h ⊢
  rw [dec_split 9 n h, fw_dec (Nat.mod_lt _ (by decide)) (by decide)]
theorem group_len (n : Nat) (h : n < 1000000000) : (dec n).length ≤ 9 := dec_len_le (k := 9) (by simpa using h) (by decide)
theorem dec_len (n : Nat) : 1 ≤ (dec n).length := List.length_pos_iff.2 (dec_ne n)
theorem gdiv_succ (n i : Nat) : n / 1000000000 ^ (i + 1) = n / 1000000000 ^ i / 1000000000 := by rw [Nat.pow_succ, Nat.div_div_eq_div_mul]
theorem gdiv_pos {n i k : Nat} (h : 0 < n / 1000000000 ^ k) (hi : i ≤ k) : 0 < n / 1000000000 ^ i := by
  have hp : 0 < 1000000000 ^ i := Nat.pow_pos (by decide)
  refine Nat.div_pos ?_ hp
  have h1 : 1000000000 ^ k ≤ n := by
    rcases Nat.lt_or_ge n (1000000000 ^ k) with h' | h'
    · rw [Nat.div_eq_of_lt h'] at h; omega
    · exact h'
  exact Nat.le_trans (Nat.pow_le_pow_right (by decide) hi) h1
theorem dec_len_words {n L : Nat} (h : n < 4294967296 ^ L) (hL : 1 ≤ L) : (dec n).length ≤ 10 * L := by
  refine dec_len_le (Nat.lt_of_lt_of_le h ?_) (by omega)
  rw [Nat.pow_mul]
  exact Nat.pow_le_pow_left (by decide) L
theorem ofD_lt_words (l : List UInt8) (L : Nat) (h : ∀ c ∈ l, isD c) (hl : l.length ≤ 9 * L) : ofD l < 4294967296 ^ L := by
  refine Nat.lt_of_lt_of_le (ofD_lt l h) (Nat.le_trans (Nat.pow_le_pow_right (by decide) hl) ?_)
  rw [Nat.pow_mul]
  exact Nat.pow_le_pow_left (by decide) L
theorem ofD_group (l : List UInt8) (h : ∀ c ∈ l, isD c) (hl : l.length ≤ 9) : ofD l < 1000000000 := by
  refine Nat.lt_of_lt_of_le (ofD_lt l h) ?_
  exact Nat.le_trans (Nat.pow_le_pow_right (by decide) hl) (by decide)
theorem ofD_cons0 (l : List UInt8) (a : Nat) : l.foldl (fun a c => 10 * a + (c.toNat - 48)) a = a * 10 ^ l.length + ofD l := by
  refine snocInd (p := fun l => l.foldl (fun a c => 10 * a + (c.toNat - 48)) a = a * 10 ^ l.length + ofD l) ?_ (fun l c ih => ?_) l
  · simp [ofD]
  · rw [List.foldl_append, ih, ofD_snoc, List.length_append, List.length_singleton, Nat.pow_succ]
    simp only [List.foldl_cons, List.foldl_nil]
    rw [Nat.mul_add, Nat.mul_comm 10 (a * 10 ^ l.length), Nat.mul_assoc]
    omega
end Go.Proofs.YtmlopkkbgpfdnaaDoor
namespace Go.Proofs.YtmlopkkbgpfdnaaDoor
open Go.RowKit Go.Sort

theorem builder_later {B b : Nat} {bs : List Value} {w w' : World} {T e : TypeId} (h : Lib.IsBuilderF T e B b bs w) (hb : Below w.heap.size w w') : Lib.IsBuilderF T e B b bs w' := by
  have key : ∀ p, Lib.BuilderAtF T e B b p bs w → Lib.BuilderAtF T e B b p bs w' := by
    intro p h
    have hlt := h.lt
    obtain ⟨hB, v, hc, hown, hne⟩ := h
    refine ⟨hB, v, (hb.block b hlt).trans hc, ⟨hown.1, ?_⟩, hne⟩
    rcases hown.2 with h0 | ⟨g, cap, cur, fz, hv, hbg, hg, rest⟩
    · exact .inl h0
    · exact .inr ⟨g, cap, cur, fz, hv, hbg, (hb.block g (Array.getElem?_eq_some_iff.1 hg).1).trans hg, rest⟩
  exact h.elim (fun x => .inl (key _ x)) (fun x => .inr (key _ x))

theorem bWrite (B b : Nat) (bs : List Value) (s : ByteArray) (w : World) (h : Lib.IsBuilderF 80 5 B b bs w) (hlen : bs.length + s.size ≤ 140737488355328) (hBw : B ≤ w.heap.size) :
    Calls Tryd.prog 46 #[.pointer (some ⟨b, 0, none⟩), .string s] w fun e w' => e = .returned (.tuple #[.int .i64 s.size, .nilIface]) ∧ Lib.IsBuilderF 80 5 B b (bs ++ Lib.strCells s) w' ∧ Below B w w' := by
  have h := Any.Builder_WriteString_k (ρ := Tryd.lays156_ren) { Tryd.lays156 with } Tryd.Builder_Extra_156 B b bs s w h hlen hBw
  exact h.mono fun e w' h => ⟨h.1, .inr h.2.1, h.2.2.1⟩

theorem holds_zero0 (w : World) (T : TypeId) (nd : Nat) (hs : nd ≤ 24) : Holds (fun (b : UInt8) => Value.int .u8 (b.toNat : Int)) (w.alloc (.cells Lib.zeros24 T)) w.heap.size 0 (Array.replicate nd (0 : UInt8)) := fun j hj => by
  have hj' : j < nd := by simpa using hj
  refine ⟨?_, World.frozen?_alloc_new _ _ _ _⟩
  rw [World.cell?_alloc_new, Lib.zeros24_at _ (by omega), getElem!_pos _ j hj]
  simp

set_option maxHeartbeats 6400000 in
set_option maxRecDepth 100000 in
/-- internal/strconv.FormatUint to the base 10 -/
theorem formatUint_any (u : Nat) (hu64 : u < 18446744073709551616) (w : World) (htab : Lib.TabIs Tryd.prog w "internal/strconv.uint64pow10" .u64 Lib.pow10Tab) :
    Calls Tryd.prog 61 #[.int .u64 u, .int .i64 10] w fun e w' => e = .returned (.string ⟨(Lib.decDigits u).toArray⟩) ∧ Below w.heap.size w w' := by
  by_cases hs : u < 100
  · go_enter Tryd.func61, Tryd.ntmps61
    go_wp2_with (go_at_call 70; refine (Tryd.internal_strconv_small u hs _).mono ?_; rintro e w' ⟨rfl, rfl⟩)
    go_ret
    exact ⟨rfl, Below.refl _ _⟩
  · have hu1 : 1 ≤ u := by omega
    have hnd20 : Lib.nDigits u ≤ 20 := by have := Lib.numDigits_eq u hu1 hu64; split at this <;> omega
    have hb3 : Lib.nDigits u ≤ 24 := by omega
    have hal : Tryd.prog.arrayLen 102 = 24 := by simp [Program.arrayLen, Tryd.underlying102]
    have hsl1 : ∀ W, (Instr.sliceAt 102 (.pointer (some ⟨w.heap.size, 0, none⟩)) none (some (.int .i64 (Lib.nDigits u : Int))) none).run Tryd.prog W = .ok (.slice (some ⟨w.heap.size, 0, none⟩) (Lib.nDigits u) 24) W := fun W => by
      rw [run_sliceAt_array_h W 102 ⟨w.heap.size, 0, none⟩ (by simp [Program.arrayLen, Program.elem, Tryd.underlying102]) .i64 (Lib.nDigits u : Int) (by omega) (by rw [hal]; omega)]
      go_simp
    have hH0 := holds_zero0 w 102 (Lib.nDigits u) (by omega)
    have hfmt := Tryd.internal_strconv_formatBase10 w.heap.size 0 24 u (Array.replicate (Lib.nDigits u) 0) (w.alloc (.cells Lib.zeros24 102)) hH0 (by rw [Array.size_replicate]; exact Lib.lt_pow_nDigits u) hu64 (by rw [Array.size_replicate]; omega)
    rw [Array.size_replicate] at hfmt
    have HH0 := Lib.hid hH0
    clear hH0 hal
    go_enter Tryd.func61, Tryd.ntmps61
    go_wp2_with (first
      | (go_at_call 71; refine (Tryd.internal_strconv_numDigits u hu1 hu64 _ (Lib.tabIs_alloc htab _)).mono ?_; rintro e w' ⟨rfl, rfl⟩))
    go_at_call 72
    refine hfmt.mono ?_
    rintro e w' ⟨rfl, k, v', dk, rfl, hF⟩
    have hcv : (convert 78 9 (.slice (some ⟨w.heap.size, 0, none⟩) (Lib.nDigits u) 24)).run Tryd.prog ((putRow (fun (b : UInt8) => Value.int .u8 (b.toNat : Int)) (w.alloc (.cells Lib.zeros24 102)) w.heap.size 0 dk).drewN k) = .ok (.string ⟨(Lib.decDigits u).toArray⟩) ((putRow (fun (b : UInt8) => Value.int .u8 (b.toNat : Int)) (w.alloc (.cells Lib.zeros24 102)) w.heap.size 0 dk).drewN k) := by
      have h := run_convert_bytes_back (P := Tryd.prog) ((putRow (fun (b : UInt8) => Value.int .u8 (b.toNat : Int)) (w.alloc (.cells Lib.zeros24 102)) w.heap.size 0 dk).drewN k) 78 9 5 ⟨w.heap.size, 0, none⟩ 24 (Lib.decDigits u) Tryd.underlying78 Tryd.underlying5 Tryd.underlying9 (fun j hj => by
        rw [Lib.row_is_numeral hF j hj, Lib.add_plain, World.cell?_drewN]
        exact cell?_putRow (fun (b : UInt8) => Value.int .u8 (b.toNat : Int)) _ w.heap.size 0 _ dk HH0.out (by rw [hF.size, Array.size_replicate]) j (by rw [hF.size]; rw [Lib.decDigits_length] at hj; exact hj))
      rw [Lib.decDigits_length] at h
      exact h
    go_wp2
    go_ret
    refine ⟨rfl, ?_⟩
    rw [alloc_eq_grow]
    obtain ⟨os', _, e⟩ := putRow_grow_new (fun (b : UInt8) => Value.int .u8 (b.toNat : Int)) w #[Obj.cells Lib.zeros24 102] w.heap.size 0 dk (Nat.le_refl _)
    rw [e]
    exact Lib.below_grow _ w (Nat.le_refl _) k os'
end Go.Proofs.YtmlopkkbgpfdnaaDoor
namespace Go.Proofs.YtmlopkkbgpfdnaaDoor
open Go.RowKit

/-- the cells of a list of words -/
def U32s (l : List Nat) : Array Value := (l.map fun x : Nat => Value.int .u32 (x : Int)).toArray
theorem U32s_get {l : List Nat} {i : Nat} (h : i < l.length) : (U32s l)[i]? = some (.int .u32 (l.getD i 0 : Nat)) := by
  simp [U32s, List.getD_eq_getElem?_getD, h]
theorem U32s_set {l : List Nat} {i x : Nat} : (U32s l).setIfInBounds i (.int .u32 (x : Int)) = U32s (l.set i x) := by
  simp [U32s]

/-- block g of w is just the words l -/
def Blk (w : World) (g : Nat) (l : List Nat) : Prop := w.heap[g]? = some (.cells (U32s l) 45 (0, 0))

section
variable {w w' : World} {g : Nat} {l : List Nat}
theorem Blk.lt (h : Blk w g l) : g < w.heap.size := by
  rcases Nat.lt_or_ge g w.heap.size with hlt | hge
  · exact hlt
  · unfold Blk at h; rw [Array.getElem?_eq_none hge] at h; cases h
theorem Blk.cell (h : Blk w g l) {i : Nat} (hi : i < l.length) : w.cell? ⟨g, i, none⟩ = some (.int .u32 (l.getD i 0 : Nat)) :=
  (cell_of_row w g i (U32s l) 45 (0, 0) h).trans (U32s_get hi)
theorem Blk.frozen (h : Blk w g l) (i : Nat) : w.frozen? ⟨g, i, none⟩ = false := by
  unfold Blk at h
  simp [World.frozen?, h]
theorem Blk.drew (h : Blk w g l) : Blk w.drew g l := h
theorem Blk.alloc (h : Blk w g l) (o : Obj) : Blk (w.alloc o) g l := (Below.heap_alloc w o g h.lt).trans h
theorem Blk.set_ (h : Blk w g l) (i x : Nat) : Blk (w.setCell ⟨g, i, none⟩ (.int .u32 (x : Int))) g (l.set i x) := by
  unfold Blk at h ⊢
  simp [World.setCell, Array.getElem?_modify, h, U32s_set]
theorem Blk.far (h : Blk w g l) {p : Addr} (hp : g ≠ p.block) (u : Value) : Blk (w.setCell p u) g l := (Below.heap_setCell w p u g hp).trans h
theorem Blk.below {B : Nat} (h : Blk w g l) (hb : Below B w w') (hg : g < B) : Blk w' g l := (hb.block g hg).trans h
theorem Blk.wd (h : Blk w g l) (ho : Ok l) (hl : l.length ≤ 9223372036854775807) (c : Nat) (hc : l.length ≤ c) (hc' : c ≤ 9223372036854775807) : Wd w (.slice (some ⟨g, 0, none⟩) l.length c) l :=
  ⟨_, c, rfl, hc, hc', ho, fun _ => ⟨g, 0, rfl, h.lt, fun j hj => by rw [Nat.zero_add]; exact h.cell hj⟩⟩
end

theorem Wd.new (w : World) (l : List Nat) (ho : Ok l) (cs : Array Value) (t : TypeId) (n c : Nat) (hl : n = l.length) (hc : n ≤ c) (hc' : c ≤ 9223372036854775807)
    (hcs : ∀ j, j < l.length → cs[j]? = some (.int .u32 (l.getD j 0 : Nat))) : Wd (w.alloc (.cells cs t)) (.slice (some ⟨w.heap.size, 0, none⟩) n c) l := by
  subst hl
  exact ⟨_, c, rfl, hc, hc', ho, fun _ => ⟨w.heap.size, 0, rfl, by simp, fun j hj => by rw [Nat.zero_add, World.cell?_alloc_new]; exact hcs j hj⟩⟩

theorem below_alloc (w : World) (o : Obj) : Below w.heap.size w (w.alloc o) := (Below.refl _ _).alloc (Nat.le_refl _) o

/-- exact.naturalOf -/
theorem naturalOf_any (n : Nat) (hn : n < 18446744073709551616) (w : World) :
    Calls Tryd.prog 69 #[.int .u64 n] w fun e w' => ∃ u, e = .returned u ∧ Wd w' u (dig n) ∧ Below w.heap.size w w' := by
  have hv : val [n % 4294967296, n / 4294967296] = n := by simp only [val]; omega
  have ho : Ok [n % 4294967296, n / 4294967296] := Ok.mk (by omega) (Ok.mk (by omega) Ok.nil)
  have Hv := Lib.hid hv; clear hv
  go_enter Tryd.func69, Tryd.ntmps69
  go_wp2_with fail
  refine (trimE_any _ [n % 4294967296, n / 4294967296] _ (Wd.new w _ ho _ _ 2 2 rfl (by omega) (by omega) ?_)).mono ?_
  · intro j hj
    match j, hj with
    | 0, _ => simp
    | 1, _ => simp
  rintro e w' ⟨u, rfl, hu, rfl⟩
  rw [Hv.out] at hu
  have hb := below_alloc w (Obj.cells #[Value.int IntKind.u32 (↑n % 4294967296), Value.int IntKind.u32 (↑n / 4294967296)] 45)
  go_wp2
  go_ret
  exact ⟨u, rfl, hu, hb⟩

set_option maxRecDepth 100000 in
theorem info45 : (Tryd.prog.info? 45).map (fun i => (i.zero, i.size, i.bytes)) = some (some (.int .u32 0), 1, 4) := by kernel_rfl

theorem made_zeros (k : Nat) : madeCells (Value.int .u32 0).cells k = U32s (zeros k) := by
  apply Array.ext
  · simp [madeCells, U32s, zeros]
  · intro i h1 h2
    simp [madeCells, U32s, zeros, Value.cells, Nat.mod_one]

theorem make_u32 (t : TypeId) (ht : Tryd.prog.underlying t = some (.slice 45)) (k : Nat) (hk : k ≤ 70368744177664) (w : World) :
    (Instr.makeSlice t (.int .i64 (k : Int)) (.int .i64 (k : Int))).run Tryd.prog w = .ok (.slice (some ⟨w.heap.size, 0, none⟩) k k) (w.alloc (.cells (U32s (zeros k)) 45)) := by
  obtain ⟨i0, hi, hz0, hz1, hz2⟩ := info_parts info45
  have hr := run_make (P := Tryd.prog) w t 45 i0 _ ht hi hz0 .i64 .i64 k k (by omega) (Int.le_refl _) (by rw [hz2]; omega) (by omega)
  rw [hr, Int.toNat_natCast, hz1, Nat.mul_one, made_zeros]

theorem add32_any (a b c : Nat) (ha : a < 4294967296) (hb : b < 4294967296) (hc : c < 4294967296) (w : World) :
    Calls Tryd.prog 67 #[.int .u32 a, .int .u32 b, .int .u32 c] w fun e w' =>
      e = .returned (.tuple #[.int .u32 ((a + b + c) % 4294967296 : Nat), .int .u32 ((a + b + c) / 4294967296 : Nat)]) ∧ w = w' := by
  go_enter Tryd.func67, Tryd.ntmps67
  go_wp2
  go_ret2
  exact ⟨by simp, rfl⟩

set_option maxRecDepth 100000 in
/-- exact plus -/
theorem plusE_any (x y : Nat) (u v : Value) (w : World) (hx : Wd w u (dig x)) (hy : Wd w v (dig y)) (lx : (dig x).length ≤ 1000000) (ly : (dig y).length ≤ 1000000) :
    Calls Tryd.prog 56 #[u, v] w fun e w' => ∃ r, e = .returned r ∧ Wd w' r (dig (x + y)) ∧ Below w.heap.size w w' := by
  have Hx := Lib.hid hx
  have Hy := Lib.hid hy
  obtain ⟨A, c, rfl, -, -, -, -⟩ := hx
  obtain ⟨A', c', rfl, -, -, -, -⟩ := hy
  obtain ⟨nx, hnx⟩ : ∃ n, n = (dig x).length := ⟨_, rfl⟩
  obtain ⟨ny, hny⟩ : ∃ n, n = (dig y).length := ⟨_, rfl⟩
  rw [← hnx] at lx Hx ⊢
  rw [← hny] at ly Hy ⊢
  have Hnx := Lib.hid hnx; clear hnx
  have Hny := Lib.hid hny; clear hny
  obtain ⟨n, hn, h1, h2, h3⟩ : ∃ n : Nat, max (nx : Int) (ny : Int) = (n : Int) ∧ nx ≤ n ∧ ny ≤ n ∧ n ≤ 1000000 := ⟨max nx ny, by omega, by omega, by omega, by omega⟩
  have hmk : ∀ w, (Instr.makeSlice 35 (.int .i64 ((n : Int) + 1)) (.int .i64 ((n : Int) + 1))).run Tryd.prog w = .ok (.slice (some ⟨w.heap.size, 0, none⟩) (n + 1) (n + 1)) (w.alloc (.cells (U32s (zeros (n + 1))) 45)) := fun w => make_u32 35 Tryd.underlying35 (n + 1) (by omega) w
  go_enter Tryd.func56, Tryd.ntmps56
  go_wp2_with fail
  go_loopw [7, 18] (fun cr i wr => ∃ (k cv : Nat) (L : List Nat), i = .int .i64 k ∧ k ≤ n ∧ cr = .int .u32 cv ∧ cv ≤ 1 ∧ L.length = n + 1 ∧ Ok L ∧ Blk wr w.heap.size L ∧ Below w.heap.size w wr ∧
      val (L.take k) + 4294967296 ^ k * cv = x % 4294967296 ^ k + y % 4294967296 ^ k) (fun _ i _ => n - (intOf i).toNat)
  case atStart => exact ⟨0, 0, zeros (n + 1), rfl, Nat.zero_le _, rfl, by omega, zeros_length _, zeros_ok _, heap_alloc_new w _, below_alloc _ _, by simp [val, Nat.mod_one]⟩
  case round =>
    obtain ⟨k, cv, L, rfl, hk, rfl, hcv, hL, hok, hblk, hbel, hval⟩ := hrel
    have HV := Lib.hid hval; clear hval
    have HL := Lib.hid hL; clear hL
    have HX : Wd wr (.slice A nx c) (dig x) := Hx.out.below hbel
    have HY : Wd wr (.slice A' ny c') (dig y) := Hy.out.below hbel
    have hfr := hblk.frozen k
    have hce := hblk.cell (i := k) (by rw [HL.out]; omega)
    have hB := Lib.hid hblk; clear hblk
    by_cases hlt : k < n
    · go_wp2_with fail
      refine (word_dig _ x k _ HX).mono ?_
      rintro e w' ⟨rfl, rfl⟩
      go_wp2_with fail
      refine (word_dig _ y k _ HY).mono ?_
      rintro e w' ⟨rfl, rfl⟩
      go_wp2_with fail
      refine (add32_any _ _ _ (dg_lt x k) (dg_lt y k) (by omega) _).mono ?_
      rintro e w' ⟨rfl, rfl⟩
      obtain ⟨s, hs⟩ : ∃ s, s = dg x k + dg y k + cv := ⟨_, rfl⟩
      rw [← hs]
      have hsl : s < 8589934592 := by have := dg_lt x k; have := dg_lt y k; omega
      have hs2 : s / 4294967296 ≤ 1 := by have := dg_lt x k; have := dg_lt y k; omega
      have Hs := Lib.hid hs; clear hs
      obtain ⟨lo, hlo⟩ : ∃ lo, lo = s % 4294967296 := ⟨_, rfl⟩
      obtain ⟨hi, hhi⟩ : ∃ hi, hi = s / 4294967296 := ⟨_, rfl⟩
      rw [← hlo, ← hhi]
      rw [← hhi] at hs2
      have Hlo := Lib.hid hlo; clear hlo
      have Hhi := Lib.hid hhi; clear hhi
      go_wp2
      go_roundw
      case rel =>
        refine ⟨k + 1, hi, L.set k lo, by go_num, by omega, rfl, hs2, by rw [List.length_set, HL.out], hok.set (by rw [Hlo.out]; omega), hB.out.set_ k lo, hbel.setCell (Nat.le_refl _) _, ?_⟩
        rw [val_take_set (by rw [HL.out]; omega), Hlo.out, Hhi.out]
        exact add_round HV.out Hs.out
      case measure => simp [intOf]; omega
    · have hkn : k = n := by omega
      subst hkn
      go_wp2_with fail
      have hL2 : (L.set k cv).length = k + 1 := by rw [List.length_set, HL.out]
      have hv : val (L.set k cv) = x + y := by
        have e := val_take_set (l := L) (k := k) (x := cv) (by rw [HL.out]; omega)
        rw [List.take_of_length_le (by rw [hL2]; omega)] at e
        rw [e, HV.out, mod_len (by rw [← Hnx.out]; exact h1), mod_len (by rw [← Hny.out]; exact h2)]
      have hw2 := (hB.out.set_ k cv).wd (hok.set (by omega)) (by rw [hL2]; omega) (k + 1) (by rw [hL2]; omega) (by omega)
      rw [hL2] at hw2
      refine (trimE_any _ _ _ hw2).mono ?_
      rintro e w' ⟨r, rfl, hr, rfl⟩
      rw [hv] at hr
      have hb2 := hbel.setCell (p := ⟨w.heap.size, k, none⟩) (Nat.le_refl _) (.int .u32 (cv : Int))
      clear hv hL2 hw2
      go_wp2
      go_ret
      exact ⟨r, rfl, hr, hb2⟩

end Go.Proofs.YtmlopkkbgpfdnaaDoor
namespace Go.Proofs.YtmlopkkbgpfdnaaDoor
open Go.RowKit

theorem top_bit (n : Nat) (h : n < 4294967296) : n / 2147483648 = if n.testBit 31 then 1 else 0 := by
  rw [Nat.testBit_eq_decide_div_mod_eq]
  have : n / 2147483648 < 2 := by omega
  by_cases h1 : n / 2147483648 = 1
  · simp [h1]
  · rw [if_neg (by simp; omega)]; omega

theorem sub_borrow_nat (a b c d : Nat) (ha : a < 4294967296) (hb : b < 4294967296) (hc : c ≤ 1) (hd : d = (a + 4294967296 - b - c) % 4294967296) :
    (((4294967295 ^^^ a) &&& b) ||| ((4294967295 ^^^ (a ^^^ b)) &&& d)) / 2147483648 = if a < b + c then 1 else 0 := by
  have hd' : d < 4294967296 := by omega
  have m : (4294967295 : Nat) < 2 ^ 32 := by decide
  rw [top_bit _ (Nat.or_lt_two_pow (n := 32) (Nat.and_lt_two_pow (n := 32) _ hb) (Nat.and_lt_two_pow (n := 32) _ hd'))]
  simp only [Nat.testBit_or, Nat.testBit_and, Nat.testBit_xor]
  rw [show Nat.testBit 4294967295 31 = true from by decide]
  simp only [Nat.testBit_eq_decide_div_mod_eq]
  have e : (2 : Nat) ^ 31 = 2147483648 := by decide
  rw [e]
  rcases (by omega : a / 2147483648 % 2 = 0 ∨ a / 2147483648 % 2 = 1) with h1 | h1 <;>
  rcases (by omega : b / 2147483648 % 2 = 0 ∨ b / 2147483648 % 2 = 1) with h2 | h2 <;>
  rcases (by omega : d / 2147483648 % 2 = 0 ∨ d / 2147483648 % 2 = 1) with h3 | h3 <;>
  simp [h1, h2, h3] <;> omega

theorem max_u32 : IntKind.u32.max = ((4294967295 : Nat) : Int) := by decide

theorem sub_borrow (a b c : Nat) (ha : a < 4294967296) (hb : b < 4294967296) (hc : c ≤ 1) :
    bits BinOp.or IntKind.u32 (bits BinOp.and IntKind.u32 (bits BinOp.xor IntKind.u32 IntKind.u32.max ↑a) ↑b)
              (bits BinOp.and IntKind.u32
                (bits BinOp.xor IntKind.u32 IntKind.u32.max (bits BinOp.xor IntKind.u32 ↑a ↑b))
                (((a : Int) - ↑b - ↑c) % 4294967296)) /
            2147483648 = ((if a < b + c then 1 else 0 : Nat) : Int) := by
  have hd : ((a : Int) - ↑b - ↑c) % 4294967296 = (((a + 4294967296 - b - c) % 4294967296 : Nat) : Int) := by omega
  rw [hd, max_u32]
  have xl : ∀ x y : Nat, x < 4294967296 → y < 4294967296 → x ^^^ y < 4294967296 := fun x y h h' => Nat.xor_lt_two_pow (n := 32) h h'
  have al : ∀ x y : Nat, y < 4294967296 → x &&& y < 4294967296 := fun x y h' => Nat.and_lt_two_pow (n := 32) x h'
  rw [u32_xor_nat _ _ (by omega) ha, u32_xor_nat _ _ ha hb, u32_xor_nat _ _ (by omega) (xl _ _ ha hb), u32_and_nat _ _ (xl _ _ (by omega) ha) hb,
    u32_and_nat _ _ (xl _ _ (by omega) (xl _ _ ha hb)) (by omega), u32_or_nat _ _ (al _ _ hb) (al _ _ (by omega)), ← sub_borrow_nat a b c _ ha hb hc rfl]
  omega

end Go.Proofs.YtmlopkkbgpfdnaaDoor
namespace Go.Proofs.YtmlopkkbgpfdnaaDoor
open Go.RowKit

theorem Wd.cell {w : World} {A : Option Addr} {n c x k : Nat} (h : Wd w (.slice A n c) (dig x)) (hk : k < n) :
    ∃ b off, A = some ⟨b, off, none⟩ ∧ b < w.heap.size ∧ ∀ k, k < n → w.cell? ⟨b, off + k, none⟩ = some (.int .u32 (dg x k : Nat)) := by
  obtain ⟨A', c', he, h1, h2, h3, h4⟩ := h
  injection he with e1 e2 e3
  subst e1 e3
  rw [← e2] at h4
  obtain ⟨b, off, rfl, hb, hc⟩ := h4 (by omega)
  exact ⟨b, off, rfl, hb, fun k hk => by rw [hc k hk, dig_dg]⟩

theorem Wd.len {w : World} {A : Option Addr} {n c : Nat} {l : List Nat} (h : Wd w (.slice A n c) l) : n = l.length := by
  obtain ⟨A', c', he, _⟩ := h
  injection he
theorem Wd.shape {w : World} {v : Value} {l : List Nat} (h : Wd w v l) : ∃ A c, v = .slice A l.length c ∧ l.length ≤ c ∧ c ≤ 9223372036854775807 := by
  obtain ⟨A', c', he, h1, h2, _⟩ := h
  exact ⟨A', c', he, h1, h2⟩
theorem Wd.drewN {w : World} {v : Value} {l : List Nat} (h : Wd w v l) (n : Nat) : Wd (w.drewN n) v l := h
theorem Wd.drew {w : World} {v : Value} {l : List Nat} (h : Wd w v l) : Wd w.drew v l := h

end Go.Proofs.YtmlopkkbgpfdnaaDoor
namespace Go.Proofs.YtmlopkkbgpfdnaaDoor

section
variable {B P v1 v2 dl head u2 ul g r : Nat}
/-- a guess that the next word refutes is too high -/
theorem kd_high (hh : head = g * v1 + r) (hu : ul < P) (hg : r * B + u2 < g * v2) : (head * B + u2) * P + ul < g * ((v1 * B + v2) * P + dl) := by
  have h1 : head * B + u2 + 1 ≤ g * (v1 * B + v2) := by
    rw [Nat.mul_add, ← Nat.mul_assoc, hh, Nat.add_mul]; omega
  have h2 := Nat.mul_le_mul_right P h1
  have h3 : g * ((v1 * B + v2) * P + dl) = g * (v1 * B + v2) * P + g * dl := by rw [Nat.mul_add, Nat.mul_assoc]
  have h4 : (head * B + u2 + 1) * P = (head * B + u2) * P + P := Nat.succ_mul _ _
  omega
/-- a guess whose rest is a word's range or more is not too high -/
theorem kd_rest (hh : head = g * v1 + r) (hd : dl < P) (hv : v2 < B) (hr : B ≤ r) (hgB : g < B) : g * ((v1 * B + v2) * P + dl) ≤ (head * B + u2) * P + ul := by
  have h0 : g * (v2 + 1) ≤ B * B := Nat.mul_le_mul (by omega) (by omega)
  have h0' : B * B ≤ r * B := Nat.mul_le_mul_right B hr
  have h1 : g * (v1 * B + v2) + g ≤ head * B := by
    rw [Nat.mul_add, ← Nat.mul_assoc, hh, Nat.add_mul]
    rw [Nat.mul_add, Nat.mul_one] at h0
    omega
  have h2 := Nat.mul_le_mul_right P (Nat.le_trans h1 (Nat.le_add_right _ u2))
  have h3 : g * ((v1 * B + v2) * P + dl) = g * (v1 * B + v2) * P + g * dl := by rw [Nat.mul_add, Nat.mul_assoc]
  have h4 : (g * (v1 * B + v2) + g) * P = g * (v1 * B + v2) * P + g * P := Nat.add_mul _ _ _
  have h5 : g * dl ≤ g * P := Nat.mul_le_mul_left g (by omega)
  omega
/-- a guess that the next word does not refute is at most one too high -/
theorem kd_one (hh : head = g * v1 + r) (hd : dl < P) (hv : 1 ≤ v1) (hg : g * v2 ≤ r * B + u2) (hgB : g < B) : g * ((v1 * B + v2) * P + dl) < ((head * B + u2) * P + ul) + ((v1 * B + v2) * P + dl) := by
  have h1 : g * (v1 * B + v2) ≤ head * B + u2 := by
    rw [Nat.mul_add, ← Nat.mul_assoc, hh, Nat.add_mul]; omega
  have h2 := Nat.mul_le_mul_right P h1
  have h3 : g * ((v1 * B + v2) * P + dl) = g * (v1 * B + v2) * P + g * dl := by rw [Nat.mul_add, Nat.mul_assoc]
  have h4 : g * dl ≤ B * dl := Nat.mul_le_mul_right dl (by omega)
  have h5 : B * dl < B * P := Nat.mul_lt_mul_of_pos_left hd (by omega)
  have h6 : B * P ≤ (v1 * B + v2) * P := Nat.mul_le_mul_right P (by
    have := Nat.mul_le_mul_right B hv
    omega)
  omega
/-- a guess whose rest is a word's range or more is a word -/
theorem kd_word (hh : head = g * v1 + r) (hr : B ≤ r) (hhd : head < v1 * B + B) : g < B := by
  by_cases h : g < B
  · exact h
  · have h1 := Nat.mul_le_mul_right v1 (show B ≤ g by omega)
    rw [Nat.mul_comm B v1] at h1
    omega
end
end Go.Proofs.YtmlopkkbgpfdnaaDoor
namespace Go.Proofs.YtmlopkkbgpfdnaaDoor

theorem val_dg {l : List Nat} (ho : Ok l) (i : Nat) : l.getD i 0 = dg (val l) i := by
  induction l generalizing i with
  | nil => simp [val, dg]
  | cons x r ih =>
    have hx := ho.cons.1
    cases i with
    | zero => simp only [List.getD_cons_zero, val, dg, Nat.pow_zero, Nat.div_one]; omega
    | succ i =>
      rw [List.getD_cons_succ, ih ho.cons.2]
      unfold dg
      rw [Nat.pow_succ, Nat.mul_comm, ← Nat.div_div_eq_div_mul]
      congr 2
      simp only [val]; omega

theorem dg_div (x i k : Nat) : dg (x / 4294967296 ^ i) k = dg x (i + k) := by
  unfold dg; rw [Nat.div_div_eq_div_mul, ← Nat.pow_add]

theorem pow_pos' (k : Nat) : 0 < 4294967296 ^ k := Nat.pow_pos (by omega)

/-- the top of a number of m + 3 words -/
theorem top3 {x m : Nat} (h : x < 4294967296 ^ (m + 3)) :
    x = ((dg x (m + 2) * 4294967296 + dg x (m + 1)) * 4294967296 + dg x m) * 4294967296 ^ m + x % 4294967296 ^ m := by
  have h1 := mod_succ x m
  have h2 := mod_succ x (m + 1)
  have h3 := mod_succ x (m + 2)
  rw [Nat.mod_eq_of_lt h] at h3
  have e1 : 4294967296 ^ (m + 1) = 4294967296 ^ m * 4294967296 := Nat.pow_succ ..
  have e2 : 4294967296 ^ (m + 2) = 4294967296 ^ m * 4294967296 * 4294967296 := by rw [Nat.pow_succ, e1]
  rw [e1] at h2
  have h2' : x % 4294967296 ^ (m + 2) = x % (4294967296 ^ m * 4294967296) + 4294967296 ^ m * 4294967296 * dg x (m + 1) := h2
  rw [e2] at h3 h2'
  rw [e1] at h1
  have a1 : 4294967296 ^ m * 4294967296 * 4294967296 * dg x (m + 2) = dg x (m + 2) * 4294967296 * 4294967296 * 4294967296 ^ m := by ac_rfl
  have a2 : 4294967296 ^ m * 4294967296 * dg x (m + 1) = dg x (m + 1) * 4294967296 * 4294967296 ^ m := by ac_rfl
  have a3 : 4294967296 ^ m * dg x m = dg x m * 4294967296 ^ m := by ac_rfl
  rw [Nat.add_mul, Nat.add_mul, Nat.add_mul]
  omega

/-- the top of a number of m + 2 words -/
theorem top2 {x m : Nat} (h : x < 4294967296 ^ (m + 2)) :
    x = (dg x (m + 1) * 4294967296 + dg x m) * 4294967296 ^ m + x % 4294967296 ^ m := by
  have h0 : dg x (m + 2) = 0 := dg_ge h
  have := top3 (x := x) (m := m) (Nat.lt_of_lt_of_le h (Nat.pow_le_pow_right (by omega) (by omega)))
  rw [h0] at this
  simpa using this

theorem kd_head {B P v1 v2 dl head u2 ul : Nat} (hd : dl < P) (hv : v2 < B) (h : (head * B + u2) * P + ul < ((v1 * B + v2) * P + dl) * B) : head < v1 * B + B := by
  rcases Nat.lt_or_ge head (v1 * B + B) with g | g
  · exact g
  · have h2 : (v1 * B + B) * B * P ≤ (head * B + u2) * P := Nat.mul_le_mul_right P (Nat.le_trans (Nat.mul_le_mul_right B g) (Nat.le_add_right _ _))
    have h4 : ((v1 * B + v2) * P + dl) * B ≤ ((v1 * B + v2) * P + P) * B := Nat.mul_le_mul_right B (by omega)
    have h5 : (v1 * B + v2) * P + P = (v1 * B + v2 + 1) * P := (Nat.succ_mul _ _).symm
    have h6 : (v1 * B + v2 + 1) * P * B ≤ (v1 * B + B) * P * B := Nat.mul_le_mul_right B (Nat.mul_le_mul_right P (by omega))
    have h8 : (v1 * B + B) * P * B = (v1 * B + B) * B * P := by ac_rfl
    rw [h5] at h4
    omega

/-- what a guess of a digit rests on -/
structure KD (U D P head u2 ul v1 v2 dl : Nat) : Prop where
  u : U = (head * 4294967296 + u2) * P + ul
  ul_lt : ul < P
  d : D = (v1 * 4294967296 + v2) * P + dl
  dl_lt : dl < P
  u2_lt : u2 < 4294967296
  v2_lt : v2 < 4294967296
  v1_ge : 2147483648 ≤ v1
  v1_lt : v1 < 4294967296
  lt : U < D * 4294967296

namespace KD
variable {U D P head u2 ul v1 v2 dl g r : Nat}
theorem dpos (k : KD U D P head u2 ul v1 v2 dl) : 0 < D := by
  rcases Nat.eq_zero_or_pos D with h | h
  · have := k.lt; rw [h] at this; omega
  · exact h
theorem q_lt (k : KD U D P head u2 ul v1 v2 dl) : U / D < 4294967296 := by
  rw [Nat.div_lt_iff_lt_mul k.dpos, Nat.mul_comm]; exact k.lt
theorem head_lt (k : KD U D P head u2 ul v1 v2 dl) : head < v1 * 4294967296 + 4294967296 := by
  have h1 := k.lt
  rw [k.u, k.d] at h1
  exact kd_head k.dl_lt k.v2_lt h1
theorem start (k : KD U D P head u2 ul v1 v2 dl) : U / D ≤ head / v1 := by
  have hv1 := k.v1_ge
  rw [Nat.le_div_iff_mul_le (by omega)]
  have h1 : U / D * D ≤ U := Nat.div_mul_le_self _ _
  have h2 : v1 * 4294967296 * P ≤ D := by
    rw [k.d, Nat.add_mul]; omega
  have h3 : U / D * (v1 * 4294967296 * P) ≤ U := Nat.le_trans (Nat.mul_le_mul_left _ h2) h1
  have hP : 0 < P := Nat.lt_of_le_of_lt (Nat.zero_le _) k.ul_lt
  have h4 : U < (head + 1) * (4294967296 * P) := by
    rw [k.u]
    have a := k.ul_lt
    have b : (head * 4294967296 + u2 + 1) * P ≤ (head * 4294967296 + 4294967296) * P := Nat.mul_le_mul_right P (by have := k.u2_lt; omega)
    rw [Nat.succ_mul] at b
    have c : (head * 4294967296 + 4294967296) * P = (head + 1) * (4294967296 * P) := by rw [← Nat.mul_assoc, Nat.add_mul head 1, Nat.one_mul]
    omega
  have h5 : U / D * v1 * (4294967296 * P) < (head + 1) * (4294967296 * P) := by
    have : U / D * v1 * (4294967296 * P) = U / D * (v1 * 4294967296 * P) := by ac_rfl
    omega
  have h6 := Nat.lt_of_mul_lt_mul_right h5
  omega
theorem high (k : KD U D P head u2 ul v1 v2 dl) (hh : head = g * v1 + r) (hg : r * 4294967296 + u2 < g * v2) : U / D < g := by
  rw [Nat.div_lt_iff_lt_mul k.dpos]
  have := kd_high (P := P) (dl := dl) (ul := ul) hh k.ul_lt hg
  rw [← k.u, ← k.d] at this
  exact this
theorem rest (k : KD U D P head u2 ul v1 v2 dl) (hh : head = g * v1 + r) (hr : 4294967296 ≤ r) (hq : U / D ≤ g) : g < 4294967296 ∧ g = U / D := by
  have h1 := kd_word hh hr k.head_lt
  refine ⟨h1, ?_⟩
  have := kd_rest (P := P) (ul := ul) (u2 := u2) hh k.dl_lt k.v2_lt hr h1
  rw [← k.u, ← k.d] at this
  have := (Nat.le_div_iff_mul_le k.dpos).2 this
  omega
theorem one (k : KD U D P head u2 ul v1 v2 dl) (hh : head = g * v1 + r) (hg : g * v2 ≤ r * 4294967296 + u2) (hgB : g < 4294967296) : g ≤ U / D + 1 := by
  have := kd_one (P := P) (dl := dl) (ul := ul) hh k.dl_lt (by have := k.v1_ge; omega) hg hgB
  rw [← k.u, ← k.d] at this
  have h2 : g < U / D + 2 := by
    rcases Nat.lt_or_ge g (U / D + 2) with h | h
    · exact h
    · have h3 := Nat.mul_le_mul_right D h
      have h4 := Nat.lt_div_mul_add k.dpos (a := U)
      have h5 : (U / D + 2) * D = U / D * D + D + D := by rw [Nat.add_mul]; omega
      omega
  omega
end KD

/-- the numbers of which a digit is guessed: x's words from i on, i + n the highest -/
theorem kd_of {x D i m : Nat} (hx : x < D * 4294967296 ^ (i + 1)) (hD : D < 4294967296 ^ (m + 2)) (ht : 2147483648 ≤ dg D (m + 1)) :
    KD (x / 4294967296 ^ i) D (4294967296 ^ m) (dg x (i + m + 2) * 4294967296 + dg x (i + m + 1)) (dg x (i + m)) (x / 4294967296 ^ i % 4294967296 ^ m) (dg D (m + 1)) (dg D m) (D % 4294967296 ^ m) := by
  have hlt : x / 4294967296 ^ i < D * 4294967296 := by
    rw [Nat.div_lt_iff_lt_mul (pow_pos' i), Nat.mul_assoc, Nat.mul_comm 4294967296, ← Nat.pow_succ]; exact hx
  have hU : x / 4294967296 ^ i < 4294967296 ^ (m + 3) := by
    refine Nat.lt_trans hlt ?_
    rw [show m + 3 = m + 2 + 1 from rfl, Nat.pow_succ]
    exact Nat.mul_lt_mul_of_pos_right hD (by omega)
  refine ⟨?_, Nat.mod_lt _ (pow_pos' m), top2 hD, Nat.mod_lt _ (pow_pos' m), dg_lt _ _, dg_lt _ _, ht, dg_lt _ _, hlt⟩
  have := top3 hU
  rw [dg_div, dg_div, dg_div] at this
  exact this

/-- a round of the loop that subtracts a multiple -/
theorem take_round {V V' i j g D X old c b s lo hi nb new : Nat}
    (hV : V + 4294967296 ^ i * (g * (D % 4294967296 ^ j)) = X + 4294967296 ^ (i + j) * (c + b))
    (hV' : V' + 4294967296 ^ (i + j) * old = V + 4294967296 ^ (i + j) * new)
    (hs : s = g * dg D j + c) (hlo : lo = s % 4294967296) (hhi : hi = s / 4294967296)
    (hnew : new + lo + b = old + 4294967296 * nb) :
    V' + 4294967296 ^ i * (g * (D % 4294967296 ^ (j + 1))) = X + 4294967296 ^ (i + (j + 1)) * (hi + nb) := by
  rw [mod_succ]
  have e1 : 4294967296 ^ (i + (j + 1)) * (hi + nb) = 4294967296 ^ (i + j) * (4294967296 * hi) + 4294967296 ^ (i + j) * (4294967296 * nb) := by
    rw [← Nat.add_assoc, Nat.pow_succ, Nat.mul_assoc, Nat.mul_add, Nat.mul_add]
  have e2 : 4294967296 ^ i * (g * (D % 4294967296 ^ j + 4294967296 ^ j * dg D j)) = 4294967296 ^ i * (g * (D % 4294967296 ^ j)) + 4294967296 ^ (i + j) * (g * dg D j) := by
    rw [Nat.mul_add, Nat.mul_add, Nat.pow_add]
    congr 1
    rw [Nat.mul_left_comm g, Nat.mul_assoc]
  have e3 : 4294967296 ^ (i + j) * lo + 4294967296 ^ (i + j) * (4294967296 * hi) = 4294967296 ^ (i + j) * (g * dg D j) + 4294967296 ^ (i + j) * c := by
    rw [← Nat.mul_add, ← Nat.mul_add, ← hs, hlo, hhi, Nat.mod_add_div]
  have e4 : 4294967296 ^ (i + j) * new + 4294967296 ^ (i + j) * lo + 4294967296 ^ (i + j) * b = 4294967296 ^ (i + j) * old + 4294967296 ^ (i + j) * (4294967296 * nb) := by
    rw [← Nat.mul_add, ← Nat.mul_add, ← Nat.mul_add, hnew]
  rw [Nat.mul_add] at hV
  omega

/-- the round of the highest word -/
theorem take_last {V V' X Y p old c b nb new : Nat} (hV : V + Y = X + p * (c + b)) (hV' : V' + p * old = V + p * new) (hnew : new + c + b = old + 4294967296 * nb) :
    V' + Y = X + p * 4294967296 * nb := by
  have e4 : p * new + p * c + p * b = p * old + p * (4294967296 * nb) := by
    rw [← Nat.mul_add, ← Nat.mul_add, ← Nat.mul_add, hnew]
  rw [← Nat.mul_assoc] at e4
  rw [Nat.mul_add] at hV
  omega

/-- a round of the loop that adds back -/
theorem back_round {V V' i j D X old c s new nc : Nat}
    (hV : V + 4294967296 ^ (i + j) * c = X + 4294967296 ^ i * (D % 4294967296 ^ j))
    (hV' : V' + 4294967296 ^ (i + j) * old = V + 4294967296 ^ (i + j) * new)
    (hs : s = old + dg D j + c) (hlo : new = s % 4294967296) (hhi : nc = s / 4294967296) :
    V' + 4294967296 ^ (i + (j + 1)) * nc = X + 4294967296 ^ i * (D % 4294967296 ^ (j + 1)) := by
  rw [mod_succ]
  have e1 : 4294967296 ^ (i + (j + 1)) * nc = 4294967296 ^ (i + j) * (4294967296 * nc) := by rw [← Nat.add_assoc, Nat.pow_succ, Nat.mul_assoc]
  have e2 : 4294967296 ^ i * (D % 4294967296 ^ j + 4294967296 ^ j * dg D j) = 4294967296 ^ i * (D % 4294967296 ^ j) + 4294967296 ^ (i + j) * dg D j := by
    rw [Nat.mul_add, Nat.pow_add, Nat.mul_assoc]
  have e3 : 4294967296 ^ (i + j) * new + 4294967296 ^ (i + j) * (4294967296 * nc) = 4294967296 ^ (i + j) * old + 4294967296 ^ (i + j) * dg D j + 4294967296 ^ (i + j) * c := by
    rw [← Nat.mul_add, ← Nat.mul_add, ← Nat.mul_add, ← hs, hlo, hhi, Nat.mod_add_div]
  omega

theorem val_small {l : List Nat} {k : Nat} (ho : Ok l) (hz : ∀ p, k ≤ p → l.getD p 0 = 0) : val l < 4294967296 ^ k := by
  rw [take_norm (l := l) (n := k) (fun j h _ => hz j h)]
  have h1 := val_lt (ho.take k)
  exact Nat.lt_of_lt_of_le h1 (Nat.pow_le_pow_right (by omega) (by rw [List.length_take]; omega))

theorem words_zero {l : List Nat} {k : Nat} (ho : Ok l) (h : val l < 4294967296 ^ k) (p : Nat) (hp : k ≤ p) : l.getD p 0 = 0 := by
  rw [val_dg ho]
  exact dg_ge (Nat.lt_of_lt_of_le h (Nat.pow_le_pow_right (by omega) hp))

/-- the guess was right -/
theorem take_done {V X D g i : Nat} (hD : 0 < D) (h : V + 4294967296 ^ i * (g * D) = X) (hq : X / 4294967296 ^ i / D ≤ g) : g = X / 4294967296 ^ i / D := by
  have h1 : g * D ≤ X / 4294967296 ^ i := by
    rw [Nat.le_div_iff_mul_le (pow_pos' i), Nat.mul_comm]; omega
  have h2 := (Nat.le_div_iff_mul_le hD).2 h1
  omega

/-- the guess was one too high -/
theorem take_high {V X D g i n : Nat} (h : V + 4294967296 ^ i * (g * D) = X + 4294967296 ^ (i + n + 1)) (hV : V < 4294967296 ^ (i + n + 1)) (hD : 0 < D) (hq : g ≤ X / 4294967296 ^ i / D + 1) :
    g = X / 4294967296 ^ i / D + 1 := by
  have h1 : X < 4294967296 ^ i * (g * D) := by omega
  have h2 : X / 4294967296 ^ i / D < g := by
    rw [Nat.div_lt_iff_lt_mul hD, Nat.div_lt_iff_lt_mul (pow_pos' i), Nat.mul_comm]; exact h1
  omega

/-- adding back ends with the rest -/
theorem back_done {V X D g q i n M c : Nat} (h : V + 4294967296 ^ i * (g * D) = X + 4294967296 ^ (i + n + 1)) (hg : g = q + 1) (hq : q = X / 4294967296 ^ i / D)
    (hM : M + 4294967296 ^ (i + n + 1) * c = V + 4294967296 ^ i * D) (hc : c ≤ 1) (hMl : M < 4294967296 ^ (i + n + 1)) : M + 4294967296 ^ i * (q * D) = X := by
  have e : 4294967296 ^ i * (g * D) = 4294967296 ^ i * (q * D) + 4294967296 ^ i * D := by rw [hg, Nat.succ_mul, Nat.mul_add]
  have hle : 4294967296 ^ i * (q * D) ≤ X := by
    have h1 : q * D ≤ X / 4294967296 ^ i := by rw [hq]; exact Nat.div_mul_le_self _ _
    have := Nat.mul_le_mul_left (4294967296 ^ i) h1
    exact Nat.le_trans this (Nat.mul_div_le _ _)
  rcases (by omega : c = 0 ∨ c = 1) with rfl | rfl
  · omega
  · omega

/-- the numbers fall below the divisor's multiple -/
theorem part_lt {X V D q i : Nat} (h : V + 4294967296 ^ i * (q * D) = X) (hq : q = X / 4294967296 ^ i / D) (hD : 0 < D) : V < D * 4294967296 ^ i := by
  have h1 : X / 4294967296 ^ i < q * D + D := by rw [hq]; exact Nat.lt_div_mul_add hD
  have h2 : X < (q * D + D) * 4294967296 ^ i := by
    rw [← Nat.div_lt_iff_lt_mul (pow_pos' i)]; exact h1
  rw [Nat.add_mul, Nat.mul_comm (q * D)] at h2
  omega

end Go.Proofs.YtmlopkkbgpfdnaaDoor
namespace Go.Proofs.YtmlopkkbgpfdnaaDoor

theorem val_of_dgs {l : List Nat} {y : Nat} (h : ∀ j, j < l.length → l.getD j 0 = dg y j) (hy : y < 4294967296 ^ l.length) : val l = y := by
  have key : ∀ k, k ≤ l.length → val (l.take k) = y % 4294967296 ^ k := by
    intro k
    induction k with
    | zero => intro _; simp [val, Nat.mod_one]
    | succ k ih =>
      intro hk
      rw [val_take_succ (by omega), ih (by omega), mod_succ, h k (by omega)]
  have := key l.length (Nat.le_refl _)
  rw [List.take_of_length_le (Nat.le_refl _), Nat.mod_eq_of_lt hy] at this
  exact this

theorem div_mod_word (x b k : Nat) : x / b / 4294967296 ^ k % 4294967296 = x / 4294967296 ^ k / b % 4294967296 := by
  rw [Nat.div_div_eq_div_mul, Nat.mul_comm, ← Nat.div_div_eq_div_mul]

/-- a word of a quotient, from the rest of the words above it -/
theorem quo_word {x b k r z : Nat} (hb : 0 < b) (hr : r = x / 4294967296 ^ (k + 1) % b) (hz : z = r * 4294967296 + dg x k) :
    dg (x / b) k = z / b ∧ x / 4294967296 ^ k % b = z % b ∧ z / b < 4294967296 := by
  have hs := div_step x k
  obtain ⟨y, hy⟩ : ∃ y, y = x / 4294967296 ^ (k + 1) := ⟨_, rfl⟩
  rw [← hy] at hs hr
  have e : x / 4294967296 ^ k = z + b * (4294967296 * (y / b)) := by
    have h1 : y = b * (y / b) + r := by rw [hr]; exact (Nat.div_add_mod y b).symm
    have h2 : b * (4294967296 * (y / b)) = 4294967296 * (b * (y / b)) := Nat.mul_left_comm _ _ _
    omega
  have hrb : r < b := by rw [hr]; exact Nat.mod_lt _ hb
  have hd := dg_lt x k
  have hzb : z / b < 4294967296 := by
    rw [Nat.div_lt_iff_lt_mul hb]
    have : (r + 1) * 4294967296 ≤ b * 4294967296 := Nat.mul_le_mul_right _ hrb
    rw [Nat.mul_comm 4294967296 b]
    omega
  refine ⟨?_, ?_, hzb⟩
  · unfold dg
    rw [div_mod_word, e, Nat.add_mul_div_left _ _ hb, Nat.add_mul_mod_self_left, Nat.mod_eq_of_lt hzb]
  · rw [e, Nat.add_mul_mod_self_left]

theorem shl_parts {c e : Nat} (h : c * e = 4294967296) : 0 < c ∧ 0 < e := by
  constructor
  · rcases Nat.eq_zero_or_pos c with h0 | h0
    · subst h0; simp at h
    · exact h0
  · rcases Nat.eq_zero_or_pos e with h0 | h0
    · subst h0; simp at h
    · exact h0

/-- a multiple of c below B, and less than c more -/
theorem mul_mod_lt {c e z : Nat} (h : c * e = 4294967296) : z * c % 4294967296 = (z % e) * c ∧ (z % e) * c + c ≤ 4294967296 := by
  obtain ⟨hc, he⟩ := shl_parts h
  constructor
  · rw [← h, Nat.mul_comm z c, Nat.mul_mod_mul_left, Nat.mul_comm]
  · have : (z % e + 1) * c ≤ e * c := Nat.mul_le_mul_right c (Nat.mod_lt _ he)
    rw [Nat.succ_mul, Nat.mul_comm e c, h] at this
    exact this

theorem mul_mod_word {c x : Nat} : x * c % 4294967296 = (x % 4294967296) * c % 4294967296 := by
  rw [Nat.mul_mod, Nat.mul_mod (x % 4294967296) c, Nat.mod_mod x]

theorem dg_shl0 (x c : Nat) : dg (x * c) 0 = dg x 0 * c % 4294967296 := by
  simp only [dg, Nat.pow_zero, Nat.div_one]; exact mul_mod_word

theorem dg_shl {x k c e : Nat} (h : c * e = 4294967296) : dg (x * c) (k + 1) = dg x (k + 1) * c % 4294967296 + dg x k / e ∧ dg x k / e < c := by
  obtain ⟨hc, he⟩ := shl_parts h
  have hd := dg_lt x k
  have hde : dg x k / e < c := by rw [Nat.div_lt_iff_lt_mul he, h]; exact hd
  refine ⟨?_, hde⟩
  obtain ⟨P, hP⟩ : ∃ P, P = 4294967296 ^ k := ⟨_, rfl⟩
  have hP0 : 0 < P := by rw [hP]; exact pow_pos' k
  obtain ⟨t, ht⟩ : ∃ t, t = x % P * c / P := ⟨_, rfl⟩
  have htc : t < c := by
    rw [ht, Nat.div_lt_iff_lt_mul hP0, Nat.mul_comm c]
    exact Nat.mul_lt_mul_of_pos_right (Nat.mod_lt _ hP0) hc
  have h1 : x * c / P = x / P * c + t := by
    have e1 : x * c = x % P * c + P * (x / P * c) := by
      conv => lhs; rw [← Nat.mod_add_div x P]
      rw [Nat.add_mul, Nat.mul_assoc]
    rw [e1, Nat.add_mul_div_left _ _ hP0, ← ht, Nat.add_comm]
  have h2 : x / P = 4294967296 * (x / 4294967296 ^ (k + 1)) + dg x k := by rw [hP]; exact div_step x k
  obtain ⟨z, hz⟩ : ∃ z, z = x / 4294967296 ^ (k + 1) := ⟨_, rfl⟩
  rw [← hz] at h2
  have h3 : x * c / 4294967296 ^ (k + 1) = z * c + dg x k / e := by
    rw [Nat.pow_succ, ← hP, ← Nat.div_div_eq_div_mul, h1, h2, Nat.add_mul]
    have e2 : 4294967296 * z * c + dg x k * c + t = (dg x k * c + t) + 4294967296 * (z * c) := by rw [Nat.mul_assoc]; omega
    rw [e2, Nat.add_mul_div_left _ _ (by omega : 0 < 4294967296), Nat.add_comm]
    congr 1
    rw [← h, ← Nat.div_div_eq_div_mul, Nat.mul_comm (dg x k), Nat.mul_add_div hc, Nat.div_eq_of_lt htc, Nat.add_zero]
  have h4 : dg (x * c) (k + 1) = (z * c + dg x k / e) % 4294967296 := by unfold dg at h3 ⊢; rw [h3]
  have h5 : dg x (k + 1) = z % 4294967296 := by unfold dg; rw [hz]
  rw [h4, h5, ← mul_mod_word]
  obtain ⟨m1, m2⟩ := mul_mod_lt (z := z) h
  rw [Nat.add_mod, m1, Nat.mod_eq_of_lt (a := dg x k / e) (by omega), Nat.mod_eq_of_lt]
  omega

theorem dg_shr {x k c e : Nat} (h : c * e = 4294967296) : dg (x / c) k = dg x k / c + dg x (k + 1) * e % 4294967296 ∧ dg x k / c < e := by
  obtain ⟨hc, he⟩ := shl_parts h
  have hd := dg_lt x k
  have h' : e * c = 4294967296 := by rw [Nat.mul_comm]; exact h
  have hde : dg x k / c < e := by rw [Nat.div_lt_iff_lt_mul hc, h']; exact hd
  refine ⟨?_, hde⟩
  have h2 := div_step x k
  obtain ⟨z, hz⟩ : ∃ z, z = x / 4294967296 ^ (k + 1) := ⟨_, rfl⟩
  rw [← hz] at h2
  have h5 : dg x (k + 1) = z % 4294967296 := by unfold dg; rw [hz]
  have h3 : x / 4294967296 ^ k / c = z * e + dg x k / c := by
    rw [h2]
    have e2 : 4294967296 * z + dg x k = dg x k + c * (z * e) := by
      rw [← h]
      have : c * e * z = c * (z * e) := by ac_rfl
      omega
    rw [e2, Nat.add_mul_div_left _ _ hc, Nat.add_comm]
  have h4 : dg (x / c) k = (z * e + dg x k / c) % 4294967296 := by
    show x / c / 4294967296 ^ k % 4294967296 = _
    rw [div_mod_word, h3]
  rw [h4, h5, ← mul_mod_word]
  obtain ⟨m1, m2⟩ := mul_mod_lt (z := z) h'
  rw [Nat.add_mod, m1, Nat.mod_eq_of_lt (a := dg x k / c) (by omega), Nat.mod_eq_of_lt, Nat.add_comm]
  omega

/-- the whole division -/
theorem div_end {x y c V Q : Nat} (hc : 0 < c) (hy : 0 < y) (h : x * c = V + y * c * Q) (hV : V < y * c) : Q = x / y ∧ V / c = x % y := by
  have h1 : V % c = 0 := by
    have : V = x * c - y * c * Q := by omega
    rw [this]
    have : y * c * Q = y * Q * c := by ac_rfl
    rw [this, ← Nat.sub_mul]; exact Nat.mul_mod_left _ _
  have h2 : V = V / c * c := by have := Nat.div_add_mod V c; rw [h1, Nat.mul_comm] at this; omega
  have h3 : x = V / c + y * Q := by
    have : x * c = (V / c + y * Q) * c := by
      rw [Nat.add_mul, ← h2, h]
      congr 1
      ac_rfl
    exact Nat.eq_of_mul_eq_mul_right hc this
  have h4 : V / c < y := by rw [Nat.div_lt_iff_lt_mul hc]; exact hV
  constructor
  · rw [h3, Nat.add_mul_div_left _ _ hy, Nat.div_eq_of_lt h4]; omega
  · conv => rhs; rw [h3]
    rw [Nat.add_mul_mod_self_left, Nat.mod_eq_of_lt h4]

end Go.Proofs.YtmlopkkbgpfdnaaDoor
namespace Go.Proofs.YtmlopkkbgpfdnaaDoor
open Go.RowKit

theorem word_prev (v : Value) (x k : Nat) (w : World) (hv : Wd w v (dig x)) :
    Calls Tryd.prog 68 #[v, .int .i64 ((k : Int) - 1)] w fun e w' => e = .returned (.int .u32 ((if k = 0 then 0 else dg x (k - 1) : Nat) : Int)) ∧ w = w' := by
  refine (word_any v _ _ w hv).mono ?_
  rintro e w' ⟨rfl, rfl⟩
  refine ⟨?_, rfl⟩
  by_cases h : k = 0
  · subst h; rfl
  · rw [if_neg (by omega), if_neg h, show ((k : Int) - 1).toNat = k - 1 from by omega, dig_dg]

theorem two_parts {s : Nat} (hs : s ≤ 31) : 2 ^ s * 2 ^ (32 - s) = 4294967296 := by
  rw [← Nat.pow_add, show s + (32 - s) = 32 from by omega]

theorem cast_shl (p s : Nat) : (p : Int) * 2 ^ s % 4294967296 = ((p * 2 ^ s % 4294967296 : Nat) : Int) := by
  rw [Int.natCast_emod, Int.natCast_mul, Int.natCast_pow]; rfl
theorem cast_shr (p s : Nat) : (p : Int) / 2 ^ s = ((p / 2 ^ s : Nat) : Int) := by
  rw [Int.natCast_ediv, Int.natCast_pow]; rfl

theorem or_up {p q s : Nat} (hq : q < 4294967296) (hs : s ≤ 31) : bits BinOp.or IntKind.u32 ((p : Int) * 2 ^ s % 4294967296) ((q : Int) / 2 ^ (32 - s)) = ((p * 2 ^ s % 4294967296 + q / 2 ^ (32 - s) : Nat) : Int) := by
  have h := two_parts hs
  obtain ⟨h1, h2⟩ := mul_mod_lt (z := p) h
  have h3 : q / 2 ^ (32 - s) < 2 ^ s := by rw [Nat.div_lt_iff_lt_mul (shl_parts h).2, h]; exact hq
  rw [cast_shl, cast_shr, u32_or_nat _ _ (by omega) (by omega), nat_join s _ _ (by rw [h1]; exact Nat.mul_mod_left _ _) h3]

theorem or_down {p q s : Nat} (hp : p < 4294967296) (hs : s ≤ 31) : bits BinOp.or IntKind.u32 ((p : Int) / 2 ^ s) ((q : Int) * 2 ^ (32 - s) % 4294967296) = ((p / 2 ^ s + q * 2 ^ (32 - s) % 4294967296 : Nat) : Int) := by
  have h' := two_parts hs
  have h : 2 ^ (32 - s) * 2 ^ s = 4294967296 := by rw [Nat.mul_comm]; exact h'
  obtain ⟨h1, h2⟩ := mul_mod_lt (z := q) h
  have h3 : p / 2 ^ s < 2 ^ (32 - s) := by rw [Nat.div_lt_iff_lt_mul (shl_parts h).2, h]; exact hp
  rw [cast_shl, cast_shr, u32_or_nat _ _ (by omega) (by omega), Nat.or_comm, nat_join (32 - s) _ _ (by rw [h1]; exact Nat.mul_mod_left _ _) h3, Nat.add_comm]

theorem up_word {x s k p q : Nat} (hp : p = dg x k) (hq : q = (if k = 0 then 0 else dg x (k - 1))) (hs : s ≤ 31) : p * 2 ^ s % 4294967296 + q / 2 ^ (32 - s) = dg (x * 2 ^ s) k := by
  cases k with
  | zero => rw [hp, hq, dg_shl0]; simp
  | succ k => rw [hp, hq, (dg_shl (two_parts hs)).1]; simp
theorem down_word {x s k p q : Nat} (hp : p = dg x k) (hq : q = dg x (k + 1)) (hs : s ≤ 31) : p / 2 ^ s + q * 2 ^ (32 - s) % 4294967296 = dg (x / 2 ^ s) k := by
  rw [hp, hq, (dg_shr (two_parts hs)).1]

theorem shl_lt {x s n : Nat} (h : (dig x).length ≤ n) (hs : s ≤ 31) : x * 2 ^ s < 4294967296 ^ (n + 1) := by
  have h1 := lt_of_dig_len h
  have h2 : 2 ^ s ≤ 4294967296 := by
    have h3 : 2 ^ s ≤ 2 ^ 32 := Nat.pow_le_pow_right (by omega) (by omega)
    exact Nat.le_trans h3 (by decide)
  rw [Nat.pow_succ]
  exact Nat.lt_of_lt_of_le (Nat.mul_lt_mul_of_pos_right h1 (Nat.pow_pos (by omega))) (Nat.mul_le_mul_left _ h2)

theorem set_words {L : List Nat} {y k v : Nat} (hk : k < L.length) (h : ∀ j, j < k → L.getD j 0 = dg y j) (hv : v = dg y k) : ∀ j, j < k + 1 → (L.set k v).getD j 0 = dg y j := by
  intro j hj
  by_cases e : j = k
  · subst e; rw [getD_set_self hk]; exact hv
  · rw [getD_set_ne (by omega)]; exact h j (by omega)

end Go.Proofs.YtmlopkkbgpfdnaaDoor
