/- Decimal digits, as mathematics. · Walks: strconv.FormatUint to the base 10; writing on a builder. · Walks: trim and divideWord, with where the result lies. · Walks: the text of a natural number. · Walks: the text of a whole number; exact.Print. -/
import Derived.Lib.ItoaNum
import Derived.Test.YtmlopkkbgpfdnaaGreatDoorM5
import Derived.Lib.ItoaMem
import Derived.Lib.AppendIntMem
import Derived.BigCall
import Derived.BigGuard
import Derived.Test.YtmlopkkbgpfdnaaGreatDoorM4
import Derived.Test.YtmlopkkbgpfdnaaGreatDoorM13
import Derived.Test.YtmlopkkbgpfdnaaGreatDoorM2
import Derived.Test.YtmlopkkbgpfdnaaGreatDoorM1

namespace Go.Proofs.YtmlopkkbgpfdnaaGreatDoor
open Go.Lib (decDigits nDigits)
abbrev dec := decDigits

theorem dec_small {n : Nat} (h : n < 10) : dec n = [UInt8.ofNat (48 + n)] := by unfold dec; rw [decDigits, dif_pos h]
theorem dec_big {n : Nat} (h : ¬ n < 10) : dec n = dec (n / 10) ++ [UInt8.ofNat (48 + n % 10)] := by unfold dec; rw [decDigits, dif_neg h]
theorem dec_ne (n : Nat) : dec n ≠ [] := by
  by_cases h : n < 10
  · rw [dec_small h]; simp
  · rw [dec_big h]; simp

/-- the digits of g in k places -/
def fw : Nat → Nat → List UInt8
  | 0, _ => []
  | k + 1, g => fw k (g / 10) ++ [UInt8.ofNat (48 + g % 10)]

theorem fw_length (k g : Nat) : (fw k g).length = k := by
  induction k generalizing g with
  | zero => rfl
  | succ k ih => simp [fw, ih]

theorem dec_split (k n : Nat) (h : 0 < n / 10 ^ k) : dec n = dec (n / 10 ^ k) ++ fw k (n % 10 ^ k) := by
  induction k generalizing n with
  | zero => simp [fw]
  | succ k ih =>
    have e1 : n / 10 ^ (k + 1) = n / 10 / 10 ^ k := by rw [Nat.pow_succ, Nat.mul_comm, Nat.div_div_eq_div_mul]
    have hn : ¬ n < 10 := by
      intro hn
      rw [e1, Nat.div_eq_of_lt (a := n) hn] at h
      simp at h
    have e2 : n % 10 ^ (k + 1) / 10 = n / 10 % 10 ^ k := by
      rw [Nat.pow_succ, Nat.mul_comm, Nat.mod_mul_right_div_self]
    have e3 : n % 10 ^ (k + 1) % 10 = n % 10 := by
      rw [Nat.pow_succ]
      exact Nat.mod_mod_of_dvd _ ⟨10 ^ k, Nat.mul_comm _ _⟩
    rw [dec_big hn, ih (n / 10) (by rw [← e1]; exact h), e1, fw, e2, e3, List.append_assoc]

theorem fw_zero (k : Nat) : fw k 0 = List.replicate k 48 := by
  induction k with
  | zero => rfl
  | succ k ih => rw [fw, Nat.zero_div, ih, List.replicate_succ']; rfl

theorem dec_len_le {g k : Nat} (h : g < 10 ^ k) (hk : 1 ≤ k) : (dec g).length ≤ k := by
  induction k generalizing g with
  | zero => omega
  | succ k ih =>
    by_cases hg : g < 10
    · rw [dec_small hg]; simp
    · rw [dec_big hg]
      have hk1 : 1 ≤ k := by
        rcases Nat.eq_zero_or_pos k with rfl | h'
        · simp at h; omega
        · exact h'
      have := ih (g := g / 10) (by rw [Nat.pow_succ] at h; omega) hk1
      simp; omega

theorem fw_dec {g k : Nat} (h : g < 10 ^ k) (hk : 1 ≤ k) : fw k g = List.replicate (k - (dec g).length) 48 ++ dec g := by
  induction k generalizing g with
  | zero => omega
  | succ k ih =>
    by_cases hg : g < 10
    · rw [fw, Nat.div_eq_of_lt hg, fw_zero, dec_small hg, Nat.mod_eq_of_lt hg]; simp
    · have hk1 : 1 ≤ k := by
        rcases Nat.eq_zero_or_pos k with rfl | h'
        · simp at h; omega
        · exact h'
      rw [fw, ih (g := g / 10) (by rw [Nat.pow_succ] at h; omega) hk1, dec_big hg]
      simp [List.append_assoc]

theorem snocInd {α : Type} {p : List α → Prop} (h0 : p []) (h1 : ∀ l c, p l → p (l ++ [c])) (l : List α) : p l := by
  have h : ∀ n, ∀ l : List α, l.length = n → p l := by
    intro n
    induction n with
    | zero => intro l hl; rw [List.length_eq_zero_iff.1 hl]; exact h0
    | succ n ih =>
      intro l hl
      rcases List.eq_nil_or_concat l with rfl | ⟨t, c, rfl⟩
      · exact h0
      · rw [List.concat_eq_append] at hl ⊢
        exact h1 t c (ih t (by simpa using hl))
  exact h _ l rfl

theorem head_append {α : Type} (a b : List α) (h : a ≠ []) : (a ++ b).head? = a.head? := by
  cases a with
  | nil => exact absurd rfl h
  | cons x t => rfl

/-- what the digits stand for -/
def ofD (l : List UInt8) : Nat := l.foldl (fun a c => 10 * a + (c.toNat - 48)) 0
def isD (c : UInt8) : Prop := 48 ≤ c.toNat ∧ c.toNat ≤ 57

theorem ofD_nil : ofD [] = 0 := rfl
theorem ofD_snoc (l : List UInt8) (c : UInt8) : ofD (l ++ [c]) = 10 * ofD l + (c.toNat - 48) := by simp [ofD]
theorem ofD_append (a b : List UInt8) : ofD (a ++ b) = ofD a * 10 ^ b.length + ofD b := by
  refine snocInd (p := fun b => ofD (a ++ b) = ofD a * 10 ^ b.length + ofD b) ?_ (fun b c ih => ?_) b
  · simp [ofD_nil]
  · rw [← List.append_assoc, ofD_snoc, ofD_snoc, ih, List.length_append, List.length_singleton, Nat.pow_succ]
    rw [Nat.mul_add, ← Nat.mul_assoc (ofD a), Nat.mul_comm _ 10]; omega
theorem ofD_lt (l : List UInt8) (h : ∀ c ∈ l, isD c) : ofD l < 10 ^ l.length := by
  revert h
  refine snocInd (p := fun l => (∀ c ∈ l, isD c) → ofD l < 10 ^ l.length) ?_ (fun b c ih h => ?_) l
  · simp [ofD_nil]
  · rw [ofD_snoc, List.length_append, List.length_singleton, Nat.pow_succ]
    have h1 := ih (fun x hx => h x (by simp [hx]))
    have h2 := (h c (by simp)).2
    omega

theorem digit_toNat {d : Nat} (h : d < 10) : (UInt8.ofNat (48 + d)).toNat = 48 + d := by
  simp [UInt8.toNat_ofNat']; omega
theorem isD_digit {d : Nat} (h : d < 10) : isD (UInt8.ofNat (48 + d)) := by rw [isD, digit_toNat h]; omega
theorem ofNat_digit {c : UInt8} (h : isD c) : UInt8.ofNat (48 + (c.toNat - 48)) = c := by
  have e : 48 + (c.toNat - 48) = c.toNat := by have := h.1; omega
  rw [e]; simp

theorem dec_isD (n : Nat) : ∀ c ∈ dec n, isD c := by
  induction n using Nat.strongRecOn with
  | _ n ih =>
    by_cases h : n < 10
    · rw [dec_small h]; intro c hc; rw [List.mem_singleton] at hc; subst hc; exact isD_digit h
    · rw [dec_big h]; intro c hc
      rcases List.mem_append.1 hc with h1 | h1
      · exact ih (n / 10) (by omega) c h1
      · rw [List.mem_singleton] at h1; subst h1; exact isD_digit (Nat.mod_lt _ (by omega))
theorem ofD_dec (n : Nat) : ofD (dec n) = n := by
  induction n using Nat.strongRecOn with
  | _ n ih =>
    by_cases h : n < 10
    · rw [dec_small h]
      simp only [ofD, List.foldl_cons, List.foldl_nil, digit_toNat h]
      omega
    · rw [dec_big h, ofD_snoc, ih (n / 10) (by omega), digit_toNat (Nat.mod_lt _ (by omega))]
      omega
/-- digits with no zero at the front but that of 0 itself -/
def canon (l : List UInt8) : Prop := l ≠ [] ∧ (∀ c ∈ l, isD c) ∧ (l.head? = some 48 → l.length = 1)

theorem dec_head (n : Nat) (h : 0 < n) : (dec n).head? ≠ some 48 := by
  induction n using Nat.strongRecOn with
  | _ n ih =>
    by_cases h1 : n < 10
    · rw [dec_small h1]
      simp only [List.head?_cons, ne_eq, Option.some.injEq]
      intro e
      have := congrArg UInt8.toNat e
      rw [digit_toNat h1] at this
      simp at this; omega
    · rw [dec_big h1, head_append _ _ (dec_ne _)]
      exact ih (n / 10) (by omega) (by omega)
theorem dec_canon (n : Nat) : canon (dec n) := by
  refine ⟨dec_ne n, dec_isD n, fun h => ?_⟩
  rcases Nat.eq_zero_or_pos n with rfl | h0
  · rw [dec_small (by omega)]; rfl
  · exact absurd h (dec_head n h0)

theorem ofD_pos (l : List UInt8) (h : ∀ c ∈ l, isD c) (hn : l ≠ []) (hh : l.head? ≠ some 48) : 0 < ofD l := by
  cases l with
  | nil => exact absurd rfl hn
  | cons c t =>
    have e : ofD (c :: t) = ofD [c] * 10 ^ t.length + ofD t := ofD_append [c] t
    have hc := h c (by simp)
    have : 0 < ofD [c] := by
      simp only [ofD, List.foldl_cons, List.foldl_nil]
      simp only [List.head?_cons, ne_eq, Option.some.injEq] at hh
      have : c.toNat ≠ 48 := fun e => hh (UInt8.toNat_inj.1 (by rw [e]; rfl))
      have := hc.1
      omega
    have h2 : 0 < ofD [c] * 10 ^ t.length := Nat.mul_pos this (Nat.pow_pos (by omega))
    omega

theorem dec_ofD (l : List UInt8) (h : canon l) : dec (ofD l) = l := by
  revert h
  refine snocInd (p := fun l => canon l → dec (ofD l) = l) (fun h => absurd rfl h.1) (fun t c ih h => ?_) l
  · obtain ⟨_, hd, hh⟩ := h
    have hc := hd c (by simp)
    have hd' : ∀ x ∈ t, isD x := fun x hx => hd x (by simp [hx])
    · by_cases ht : t = []
      · subst ht
        have e : ofD ([] ++ [c]) = c.toNat - 48 := by simp [ofD]
        have := hc.1; have := hc.2
        rw [e, dec_small (by omega), ofNat_digit hc]; rfl
      · have hne : t.head? ≠ some 48 := by
          intro e
          have := hh (by rw [head_append _ _ ht]; exact e)
          rw [List.length_append, List.length_singleton] at this
          have h0 : 0 < t.length := List.length_pos_iff.2 ht
          omega
        have hp := ofD_pos t hd' ht hne
        have ih' := ih ⟨ht, hd', fun e => absurd e hne⟩
        have := hc.1; have := hc.2
        have e : ofD (t ++ [c]) = 10 * ofD t + (c.toNat - 48) := ofD_snoc t c
        rw [e, dec_big (by omega), show (10 * ofD t + (c.toNat - 48)) / 10 = ofD t by omega, show (10 * ofD t + (c.toNat - 48)) % 10 = c.toNat - 48 by omega, ih', ofNat_digit hc]

/-- one more group of nine digits -/
theorem dec_group (n : Nat) (h : 0 < n / 1000000000) : dec n = dec (n / 1000000000) ++ (List.replicate (9 - (dec (n % 1000000000)).length) 48 ++ dec (n % 1000000000)) := by
  have e : (1000000000 : Nat) = 10 ^ 9 := by decide
  rw [e] at h ⊢
  rw [dec_split 9 n h, fw_dec (Nat.mod_lt _ (by decide)) (by decide)]
theorem group_len (n : Nat) (h : n < 1000000000) : (dec n).length ≤ 9 := dec_len_le (k := 9) (by simpa using h) (by decide)
theorem dec_len (n : Nat) : 1 ≤ (dec n).length := List.length_pos_iff.2 (dec_ne n)
theorem gdiv_succ (n i : Nat) : n / 1000000000 ^ (i + 1) = n / 1000000000 ^ i / 1000000000 := by rw [Nat.pow_succ, Nat.div_div_eq_div_mul]
theorem gdiv_pos {n i k : Nat} (h : 0 < n / 1000000000 ^ k) (hi : i ≤ k) : 0 < n / 1000000000 ^ i := by
  have hp : 0 < 1000000000 ^ i := Nat.pow_pos (by decide)
  refine Nat.div_pos ?_ hp
  have h1 : 1000000000 ^ k ≤ n := by
    rcases Nat.lt_or_ge n (1000000000 ^ k) with h' | h'
    · rw [Nat.div_eq_of_lt h'] at h; omega
    · exact h'
  exact Nat.le_trans (Nat.pow_le_pow_right (by decide) hi) h1
theorem dec_len_words {n L : Nat} (h : n < 4294967296 ^ L) (hL : 1 ≤ L) : (dec n).length ≤ 10 * L := by
  refine dec_len_le (Nat.lt_of_lt_of_le h ?_) (by omega)
  rw [Nat.pow_mul]
  exact Nat.pow_le_pow_left (by decide) L
theorem ofD_lt_words (l : List UInt8) (L : Nat) (h : ∀ c ∈ l, isD c) (hl : l.length ≤ 9 * L) : ofD l < 4294967296 ^ L := by
  refine Nat.lt_of_lt_of_le (ofD_lt l h) (Nat.le_trans (Nat.pow_le_pow_right (by decide) hl) ?_)
  rw [Nat.pow_mul]
  exact Nat.pow_le_pow_left (by decide) L
theorem ofD_group (l : List UInt8) (h : ∀ c ∈ l, isD c) (hl : l.length ≤ 9) : ofD l < 1000000000 := by
  refine Nat.lt_of_lt_of_le (ofD_lt l h) ?_
  exact Nat.le_trans (Nat.pow_le_pow_right (by decide) hl) (by decide)
theorem ofD_cons0 (l : List UInt8) (a : Nat) : l.foldl (fun a c => 10 * a + (c.toNat - 48)) a = a * 10 ^ l.length + ofD l := by
  refine snocInd (p := fun l => l.foldl (fun a c => 10 * a + (c.toNat - 48)) a = a * 10 ^ l.length + ofD l) ?_ (fun l c ih => ?_) l
  · simp [ofD]
  · rw [List.foldl_append, ih, ofD_snoc, List.length_append, List.length_singleton, Nat.pow_succ]
    simp only [List.foldl_cons, List.foldl_nil]
    rw [Nat.mul_add, Nat.mul_comm 10 (a * 10 ^ l.length), Nat.mul_assoc]
    omega
end Go.Proofs.YtmlopkkbgpfdnaaGreatDoor
namespace Go.Proofs.YtmlopkkbgpfdnaaGreatDoor
open Go.RowKit Go.Sort

theorem builder_later {B b : Nat} {bs : List Value} {w w' : World} {T e : TypeId} (h : Lib.IsBuilderF T e B b bs w) (hb : Below w.heap.size w w') : Lib.IsBuilderF T e B b bs w' := by
  have key : ∀ p, Lib.BuilderAtF T e B b p bs w → Lib.BuilderAtF T e B b p bs w' := by
    intro p h
    have hlt := h.lt
    obtain ⟨hB, v, hc, hown, hne⟩ := h
    refine ⟨hB, v, (hb.block b hlt).trans hc, ⟨hown.1, ?_⟩, hne⟩
    rcases hown.2 with h0 | ⟨g, cap, cur, fz, hv, hbg, hg, rest⟩
    · exact .inl h0
    · exact .inr ⟨g, cap, cur, fz, hv, hbg, (hb.block g (Array.getElem?_eq_some_iff.1 hg).1).trans hg, rest⟩
  exact h.elim (fun x => .inl (key _ x)) (fun x => .inr (key _ x))

theorem bWrite (B b : Nat) (bs : List Value) (s : ByteArray) (w : World) (h : Lib.IsBuilderF 124 5 B b bs w) (hlen : bs.length + s.size ≤ 140737488355328) (hBw : B ≤ w.heap.size) :
    Calls Tryz.prog 89 #[.pointer (some ⟨b, 0, none⟩), .string s] w fun e w' => e = .returned (.tuple #[.int .i64 s.size, .nilIface]) ∧ Lib.IsBuilderF 124 5 B b (bs ++ Lib.strCells s) w' ∧ Below B w w' := by
  have h := Any.Builder_WriteString_k (ρ := Tryz.lays156_ren) { Tryz.lays156 with } Tryz.Builder_Extra_156 B b bs s w h hlen hBw
  exact h.mono fun e w' h => ⟨h.1, .inr h.2.1, h.2.2.1⟩

theorem holds_zero0 (w : World) (T : TypeId) (nd : Nat) (hs : nd ≤ 24) : Holds (fun (b : UInt8) => Value.int .u8 (b.toNat : Int)) (w.alloc (.cells Lib.zeros24 T)) w.heap.size 0 (Array.replicate nd (0 : UInt8)) := fun j hj => by
  have hj' : j < nd := by simpa using hj
  refine ⟨?_, World.frozen?_alloc_new _ _ _ _⟩
  rw [World.cell?_alloc_new, Lib.zeros24_at _ (by omega), getElem!_pos _ j hj]
  simp

set_option maxHeartbeats 6400000 in
set_option maxRecDepth 100000 in
/-- internal/strconv.FormatUint to the base 10 -/
theorem formatUint_any (u : Nat) (hu64 : u < 18446744073709551616) (w : World) (htab : Lib.TabIs Tryz.prog w "internal/strconv.uint64pow10" .u64 Lib.pow10Tab) :
    Calls Tryz.prog 109 #[.int .u64 u, .int .i64 10] w fun e w' => e = .returned (.string ⟨(Lib.decDigits u).toArray⟩) ∧ Below w.heap.size w w' := by
  by_cases hs : u < 100
  · go_enter Tryz.func109, Tryz.ntmps109
    go_wp2_with (go_at_call 129; refine (Tryz.internal_strconv_small u hs _).mono ?_; rintro e w' ⟨rfl, rfl⟩)
    go_ret
    exact ⟨rfl, Below.refl _ _⟩
  · have hu1 : 1 ≤ u := by omega
    have hnd20 : Lib.nDigits u ≤ 20 := by have := Lib.numDigits_eq u hu1 hu64; split at this <;> omega
    have hb3 : Lib.nDigits u ≤ 24 := by omega
    have hal : Tryz.prog.arrayLen 156 = 24 := by simp [Program.arrayLen, Tryz.underlying156]
    have hsl1 : ∀ W, (Instr.sliceAt 156 (.pointer (some ⟨w.heap.size, 0, none⟩)) none (some (.int .i64 (Lib.nDigits u : Int))) none).run Tryz.prog W = .ok (.slice (some ⟨w.heap.size, 0, none⟩) (Lib.nDigits u) 24) W := fun W => by
      rw [run_sliceAt_array_h W 156 ⟨w.heap.size, 0, none⟩ (by simp [Program.arrayLen, Program.elem, Tryz.underlying156]) .i64 (Lib.nDigits u : Int) (by omega) (by rw [hal]; omega)]
      go_simp
    have hH0 := holds_zero0 w 156 (Lib.nDigits u) (by omega)
    have hfmt := Tryz.internal_strconv_formatBase10 w.heap.size 0 24 u (Array.replicate (Lib.nDigits u) 0) (w.alloc (.cells Lib.zeros24 156)) hH0 (by rw [Array.size_replicate]; exact Lib.lt_pow_nDigits u) hu64 (by rw [Array.size_replicate]; omega)
    rw [Array.size_replicate] at hfmt
    have HH0 := Lib.hid hH0
    clear hH0 hal
    go_enter Tryz.func109, Tryz.ntmps109
    go_wp2_with (first
      | (go_at_call 130; refine (Tryz.internal_strconv_numDigits u hu1 hu64 _ (Lib.tabIs_alloc htab _)).mono ?_; rintro e w' ⟨rfl, rfl⟩))
    go_at_call 131
    refine hfmt.mono ?_
    rintro e w' ⟨rfl, k, v', dk, rfl, hF⟩
    have hcv : (convert 122 9 (.slice (some ⟨w.heap.size, 0, none⟩) (Lib.nDigits u) 24)).run Tryz.prog ((putRow (fun (b : UInt8) => Value.int .u8 (b.toNat : Int)) (w.alloc (.cells Lib.zeros24 156)) w.heap.size 0 dk).drewN k) = .ok (.string ⟨(Lib.decDigits u).toArray⟩) ((putRow (fun (b : UInt8) => Value.int .u8 (b.toNat : Int)) (w.alloc (.cells Lib.zeros24 156)) w.heap.size 0 dk).drewN k) := by
      have h := run_convert_bytes_back (P := Tryz.prog) ((putRow (fun (b : UInt8) => Value.int .u8 (b.toNat : Int)) (w.alloc (.cells Lib.zeros24 156)) w.heap.size 0 dk).drewN k) 122 9 5 ⟨w.heap.size, 0, none⟩ 24 (Lib.decDigits u) Tryz.underlying122 Tryz.underlying5 Tryz.underlying9 (fun j hj => by
        rw [Lib.row_is_numeral hF j hj, Lib.add_plain, World.cell?_drewN]
        exact cell?_putRow (fun (b : UInt8) => Value.int .u8 (b.toNat : Int)) _ w.heap.size 0 _ dk HH0.out (by rw [hF.size, Array.size_replicate]) j (by rw [hF.size]; rw [Lib.decDigits_length] at hj; exact hj))
      rw [Lib.decDigits_length] at h
      exact h
    go_wp2
    go_ret
    refine ⟨rfl, ?_⟩
    rw [alloc_eq_grow]
    obtain ⟨os', _, e⟩ := putRow_grow_new (fun (b : UInt8) => Value.int .u8 (b.toNat : Int)) w #[Obj.cells Lib.zeros24 156] w.heap.size 0 dk (Nat.le_refl _)
    rw [e]
    exact Lib.below_grow _ w (Nat.le_refl _) k os'
end Go.Proofs.YtmlopkkbgpfdnaaGreatDoor
namespace Go.Proofs.YtmlopkkbgpfdnaaGreatDoor
open Go.RowKit

/-- a slice lies in a block from B on -/
def Fr (B : Nat) (v : Value) : Prop := ∀ a n c, v = .slice (some a) n c → B ≤ a.block
theorem fr_cut {B : Nat} {A : Option Addr} {n c : Nat} (h : Fr B (.slice A n c)) (n' c' : Nat) : Fr B (.slice A n' c') := fun a m d e => by
  cases e
  exact h a n c rfl

/-- exact.trim -/
theorem trimE_fr (B : Nat) (v : Value) (l : List Nat) (w : World) (hv : Wd w v l) (hf : Fr B v) :
    Calls Tryz.prog 100 #[v] w fun e w' => ∃ u, e = .returned u ∧ Wd w u (dig (val l)) ∧ Fr B u ∧ w = w' := by
  have Hf := Lib.hid hf; clear hf
  obtain ⟨A, c, rfl, h1, h2, h3, h4⟩ := hv
  obtain ⟨n, hn⟩ : ∃ n, n = l.length := ⟨_, rfl⟩
  rw [← hn] at h1 h4 ⊢
  have Hn := Lib.hid hn; clear hn
  have hm : n ≤ 9223372036854775807 := by omega
  go_enter Tryz.func100, Tryz.ntmps100
  go_wp2
  go_loop [3] (fun i => ∃ k : Nat, i = .int .i64 k ∧ k ≤ n ∧ ∀ j, k ≤ j → j < n → l.getD j 0 = 0) (fun i => (intOf i).toNat)
  case atStart => exact ⟨n, rfl, Nat.le_refl _, fun j h h' => by omega⟩
  case round =>
    obtain ⟨k, rfl, hk, hz⟩ := hrel
    by_cases k0 : k = 0
    · subst k0
      have HZ := Lib.hid hz; clear hz
      go_wp2
      go_ret
      refine ⟨.slice none 0 0, rfl, ?_, (fun a n c e => by cases e), rfl⟩
      rw [dig_take (k := 0) h3 (by omega) (fun j h h' => HZ.out j h (by rw [Hn.out]; exact h')) (.inl rfl)]
      exact Wd.nil_ _
    · obtain ⟨b, off, rfl, hb, hc⟩ := h4 (by omega)
      have hx := hc (k - 1) (by omega)
      obtain ⟨x, hxe⟩ : ∃ x, x = l.getD (k - 1) 0 := ⟨_, rfl⟩
      rw [← hxe] at hx
      have Hx := Lib.hid hxe; clear hxe
      have HC := Lib.hid hc; clear hc h4
      have HZ := Lib.hid hz; clear hz
      have hkp : 0 < k := by omega
      by_cases hx0 : x = 0
      · subst hx0
        go_wp2
        go_round
        case rel =>
          refine ⟨k - 1, by rw [show ((k : Int) - 1) = ((k - 1 : Nat) : Int) from by omega], by omega, fun j hj hj' => ?_⟩
          by_cases e : j = k - 1
          · rw [e]; exact Hx.out.symm
          · exact HZ.out j (by omega) hj'
        case measure => simp [intOf]; omega
      · go_wp2
        go_ret
        have hl : (l.take k).length = k := by rw [List.length_take, ← Hn.out]; omega
        refine ⟨.slice (some ⟨b, off, none⟩) k k, rfl, ?_, fr_cut Hf.out _ _, rfl⟩
        rw [dig_take (k := k) h3 (by rw [← Hn.out]; omega) (fun j h h' => HZ.out j h (by rw [Hn.out]; exact h')) (.inr (by rw [← Hx.out]; exact hx0))]
        refine ⟨some ⟨b, off, none⟩, k, by rw [hl], by omega, by omega, h3.take k, fun _ => ⟨b, off, rfl, hb, fun j hj => ?_⟩⟩
        rw [hl] at hj
        rw [HC.out j (by omega)]
        simp [List.getD_eq_getElem?_getD, hj]

set_option maxRecDepth 100000 in
/-- natural.divideWord -/
theorem divideWord_fr (x y : Nat) (u : Value) (w : World) (hx : Wd w u (dig x)) (lx : (dig x).length ≤ 1000000) (hy0 : 0 < y) (hy : y < 4294967296) :
    Calls Tryz.prog 86 #[u, .int .u32 y] w fun e w' => ∃ r, e = .returned (.tuple #[r, .int .u32 (x % y : Nat)]) ∧ Wd w' r (dig (x / y)) ∧ Fr w.heap.size r ∧ Below w.heap.size w w' := by
  have Hx := Lib.hid hx
  obtain ⟨A, c, rfl, -, hcl⟩ := hx.shape
  obtain ⟨n, hn⟩ : ∃ n, n = (dig x).length := ⟨_, rfl⟩
  rw [← hn] at lx Hx ⊢
  have Hn := Lib.hid hn; clear hn hx
  have hmk : ∀ w, (Instr.makeSlice 42 (.int .i64 (n : Int)) (.int .i64 (n : Int))).run Tryz.prog w = .ok (.slice (some ⟨w.heap.size, 0, none⟩) n n) (w.alloc (.cells (U32s (zeros n)) 66)) := fun w => make_u32 42 Tryz.underlying42 n (by omega) w
  go_enter Tryz.func86, Tryz.ntmps86
  go_wp2_with fail
  go_loopw [7, 8] (fun rr i wr => ∃ (k q : Nat) (L : List Nat), i = .int .i64 ((k : Int) - 1) ∧ k ≤ n ∧ rr = .int .u32 q ∧ q < y ∧ L.length = n ∧ Ok L ∧ Blk wr w.heap.size L ∧ Below w.heap.size w wr ∧
      q = x / 4294967296 ^ k % y ∧ ∀ j, k ≤ j → j < n → L.getD j 0 = dg (x / y) j) (fun _ i _ => (intOf i + 1).toNat)
  case atStart => exact ⟨n, 0, zeros n, rfl, Nat.le_refl _, rfl, hy0, zeros_length _, zeros_ok _, heap_alloc_new w _, below_alloc _ _, by rw [div_len (by rw [Hn.out]; exact Nat.le_refl _)]; simp, fun j h h' => absurd h (by omega)⟩
  case round =>
    obtain ⟨k, q, L, rfl, hk, rfl, hql, hL, hok, hblk, hbel, hq, hval⟩ := hrel
    have HQ := Lib.hid hq; clear hq
    have HV := Lib.hid hval; clear hval
    have HL := Lib.hid hL; clear hL
    by_cases hk0 : k = 0
    · subst hk0
      have hv : val L = x / y := val_of_dgs (fun j hj => HV.out j (Nat.zero_le _) (by rw [← HL.out]; exact hj)) (by rw [HL.out]; exact Nat.lt_of_le_of_lt (Nat.div_le_self _ _) (lt_of_dig_len (by rw [← Hn.out]; omega)))
      have hw2 := hblk.wd hok (by rw [HL.out]; omega) n (by rw [HL.out]; omega) (by omega)
      rw [HL.out] at hw2
      have hqe : q = x % y := by have := HQ.out; rwa [Nat.pow_zero, Nat.div_one] at this
      have Hqe := Lib.hid hqe; clear hqe
      have Hv := Lib.hid hv; clear hv
      have Hw := Lib.hid hw2; clear hw2 hblk
      go_wp2_with fail
      refine (trimE_fr w.heap.size _ _ _ Hw.out (fun a n c e => by cases e; exact Nat.le_refl _)).mono ?_
      rintro e w' ⟨r, rfl, hr, hfr2, rfl⟩
      rw [Hv.out] at hr
      obtain ⟨A3, n3, c3, rfl⟩ := hr.slice_
      go_wp2
      go_ret2
      exact ⟨_, by rw [Hqe.out]; rfl, hr, hfr2, hbel⟩
    · obtain ⟨k, rfl⟩ : ∃ j, k = j + 1 := ⟨k - 1, by omega⟩
      obtain ⟨b, off, rfl, hb, hcx⟩ := Wd.cell (k := k) Hx.out (by omega)
      have h1 : wr.cell? ⟨b, off + k, none⟩ = some (.int .u32 (dg x k : Nat)) := (hbel.cell (p := ⟨b, off + k, none⟩) hb).trans (hcx k (by omega))
      clear hcx
      obtain ⟨p, hp⟩ : ∃ p, p = dg x k := ⟨_, rfl⟩
      have hpl : p < 4294967296 := by rw [hp]; exact dg_lt _ _
      rw [← hp] at h1
      have Hp := Lib.hid hp; clear hp
      have hfr := hblk.frozen k
      have hce := hblk.cell (i := k) (by rw [HL.out]; omega)
      have hB := Lib.hid hblk; clear hblk
      have i1 : ((k + 1 : Nat) : Int) - 1 = (k : Int) := by omega
      rw [i1]
      clear i1
      go_wp2_with fail
      obtain ⟨z, hz⟩ : ∃ z, z = q * 4294967296 + p := ⟨_, rfl⟩
      refine (div32_any q p y wr hql hpl hy).mono ?_
      rintro e w' ⟨rfl, nd, rfl⟩
      rw [← hz]
      obtain ⟨f1, f2, f3⟩ := quo_word (x := x) (z := z) hy0 HQ.out (by rw [hz, Hp.out])
      obtain ⟨t, ht⟩ : ∃ t, t = z / y := ⟨_, rfl⟩
      obtain ⟨r, hr⟩ : ∃ r, r = z % y := ⟨_, rfl⟩
      rw [← ht, ← hr]
      rw [← ht] at f1 f3
      rw [← hr] at f2
      have hrl : r < y := by rw [hr]; exact Nat.mod_lt _ hy0
      have F1 := Lib.hid f1; clear f1
      have F2 := Lib.hid f2; clear f2
      clear hz ht hr
      go_wp2
      go_roundw
      case rel =>
        refine ⟨k, r, L.set k t, rfl, by omega, rfl, hrl, by rw [List.length_set, HL.out], hok.set f3, ?_, ?_, F2.out.symm, ?_⟩
        · exact hB.out.set_ k t
        · exact Below.toDrewN (hbel.setCell (p := ⟨w.heap.size, k, none⟩) (Nat.le_refl _) _) nd
        · intro j hj hj'
          by_cases e : j = k
          · subst e; rw [getD_set_self (by rw [HL.out]; exact hj')]; exact F1.out.symm
          · rw [getD_set_ne (fun e' => e e'.symm)]; exact HV.out j (by omega) hj'
      case measure => simp [intOf]
end Go.Proofs.YtmlopkkbgpfdnaaGreatDoor
namespace Go.Proofs.YtmlopkkbgpfdnaaGreatDoor
open Go.RowKit

def sLen : Value → Nat
  | .slice _ n _ => n
  | _ => 0

theorem tab_below {w w' : World} {name : String} {k : IntKind} {zs : List Int} (h : Lib.TabIs Tryz.prog w name k zs) (hb : Below w.heap.size w w') : Lib.TabIs Tryz.prog w' name k zs := by
  unfold Lib.TabIs World.var? at *
  cases hg : Tryz.prog.globalNamed name with
  | none => simp [hg] at h
  | some g =>
    simp only [hg, Option.bind_some] at h ⊢
    have hlt : g < w.heap.size := by
      rcases Nat.lt_or_ge g w.heap.size with h' | h'
      · exact h'
      · simp [Array.getElem?_eq_none h'] at h
    rw [hb.block g hlt]
    exact h

/-- the table of the powers of ten -/
abbrev Tab (w : World) : Prop := Lib.TabIs Tryz.prog w "internal/strconv.uint64pow10" .u64 Lib.pow10Tab

theorem formatUint_pub (u : Nat) (hu64 : u < 18446744073709551616) (w : World) (htab : Tab w) :
    Calls Tryz.prog 87 #[.int .u64 u, .int .i64 10] w fun e w' => e = .returned (.string ⟨(dec u).toArray⟩) ∧ Below w.heap.size w w' := by
  go_enter Tryz.func87, Tryz.ntmps87
  go_wp2_with (go_at_call 109; refine (formatUint_any u hu64 _ htab).mono ?_; rintro e w' ⟨rfl, hb⟩)
  go_ret
  exact ⟨rfl, hb⟩

theorem groups_le {n k : Nat} (h : k = 0 ∨ 0 < n / 1000000000 ^ (k - 1)) : k ≤ n := by
  rcases h with h | h
  · omega
  · have h1 : 1000000000 ^ (k - 1) ≤ n := by
      rcases Nat.lt_or_ge n (1000000000 ^ (k - 1)) with h' | h'
      · rw [Nat.div_eq_of_lt h'] at h; omega
      · exact h'
    have h2 := Nat.lt_pow_self (n := k - 1) (show 1 < 1000000000 by decide)
    omega

theorem groups_few {n k L : Nat} (h : k = 0 ∨ 0 < n / 1000000000 ^ (k - 1)) (hn : n < 4294967296 ^ L) : k ≤ 2 * L := by
  rcases h with h | h
  · omega
  · have h1 : 1000000000 ^ (k - 1) ≤ n := by
      rcases Nat.lt_or_ge n (1000000000 ^ (k - 1)) with h' | h'
      · rw [Nat.div_eq_of_lt h'] at h; omega
      · exact h'
    have h2 : 4294967296 ^ L ≤ 1000000000 ^ (2 * L) := by
      rw [Nat.pow_mul]
      exact Nat.pow_le_pow_left (by decide) L
    have h3 : 1000000000 ^ (k - 1) < 1000000000 ^ (2 * L) := by omega
    have := (Nat.pow_lt_pow_iff_right (by decide)).1 h3
    omega

theorem own_slice {w : World} {base : Nat} {v : Value} {ds : List Nat} (h : w.ownsRow base 66 1 v ds.length (ds.map uw)) : sLen v = ds.length := by
  obtain ⟨h1, h2 | ⟨g, cap, cur, rfl, hg, hh, hn, hcap, hsz, htake⟩⟩ := h
  · obtain ⟨rfl, hn⟩ := h2; simp [sLen, hn]
  · rfl

theorem own_below {w w' : World} {base : Nat} {v : Value} {n : Nat} {xs : List Value} {t : TypeId} {s : Nat} (h : w.ownsRow base t s v n xs) (hb : Below w.heap.size w w') : w'.ownsRow base t s v n xs := by
  refine ⟨h.1, ?_⟩
  rcases h.2 with h0 | ⟨g, cap, cur, hv, hbg, hg, rest⟩
  · exact .inl h0
  · exact .inr ⟨g, cap, cur, hv, hbg, (hb.block g (Array.getElem?_eq_some_iff.1 hg).1).trans hg, rest⟩

theorem wd_grown {w w' : World} {v : Value} {l : List Nat} {row : Option Nat} (h : Wd w v l) (hg : w.grownBy w' row) (hf : ∀ a n c, v = .slice (some a) n c → ∀ k, row = some k → k ≠ a.block) : Wd w' v l := by
  obtain ⟨A, c, rfl, h1, h2, h3, h4⟩ := h
  refine ⟨A, c, rfl, h1, h2, h3, fun hp => ?_⟩
  obtain ⟨b, off, rfl, hb', hc⟩ := h4 hp
  exact ⟨b, off, rfl, Nat.lt_of_lt_of_le hb' hg.size, fun j hj => (World.cell?_of_block (w := w) (hg.block b hb' (fun e => hf _ _ _ rfl b e.symm rfl))).trans (hc j hj)⟩

/-- what loop over the groups leaves -/
structure Groups (n : Nat) (B : Nat) (w : World) (v : Value) (k : Nat) (ds : List Nat) : Prop where
  len : ds.length = k
  ok : Ok ds
  own : w.ownsRow B 66 1 v ds.length (ds.map uw)
  at_ : ∀ j, j < k → ds.getD j 0 = n / 1000000000 ^ j % 1000000000
  top : k = 0 ∨ 0 < n / 1000000000 ^ (k - 1)

set_option maxHeartbeats 1600000 in
set_option maxRecDepth 100000 in
theorem natText_any (n : Nat) (u : Value) (w : World) (hx : Wd w u (dig n)) (lx : (dig n).length ≤ 1000) (htab : Tab w) :
    Calls Tryz.prog 60 #[u] w fun e w' => e = .returned (.string ⟨(dec n).toArray⟩) ∧ Below w.heap.size w w' := by
  obtain ⟨i0, hi, hz0, hz1, hz2⟩ := info_parts info66
  have Hx := Lib.hid hx
  obtain ⟨A, c, rfl, -, -⟩ := hx.shape
  have Htab := Lib.hid htab; clear htab
  have hlt := lt_of_dig_len lx
  have hdl : (dec n).length ≤ 10000 := dec_len_words hlt (by decide)
  by_cases h0 : n = 0
  · subst h0
    rw [dig_zero] at Hx ⊢
    clear hx
    go_enter Tryz.func60, Tryz.ntmps60
    go_wp2
    go_ret
    exact ⟨by rw [dec_small (by decide)]; rfl, Below.refl _ _⟩
  have hl0 : 0 < (dig n).length := dig_len_pos.2 (by omega)
  have Hlt := Lib.hid hlt; clear hlt
  have Hdl := Lib.hid hdl; clear hdl
  have Hlx := Lib.hid lx; clear lx
  clear hx
  obtain ⟨nl, hnl⟩ : ∃ nl, nl = (dig n).length := ⟨_, rfl⟩
  have Hnl := Lib.hid hnl
  rw [← hnl] at Hx hl0 ⊢
  clear hnl
  have hz : ((nl : Int) == 0) = false := by simp; omega
  go_enter Tryz.func60, Tryz.ntmps60
  go_wp2_with fail
  go_loopw [0, 3] (fun av gv wr => ∃ (k : Nat) (ds : List Nat), Wd wr av (dig (n / 1000000000 ^ k)) ∧ Groups n w.heap.size wr gv k ds ∧ Below w.heap.size w wr) (fun _ gv _ => n - sLen gv)
  case atStart => exact ⟨0, [], by rw [Nat.pow_zero, Nat.div_one]; have := Hx.out; rw [Hnl.out] at this ⊢; exact this, ⟨rfl, Ok.nil, World.ownsRow_nil _ _ _ _, fun j hj => absurd hj (by omega), Or.inl rfl⟩, Below.refl _ _⟩
  case round =>
    obtain ⟨k, ds, hav, hgr, hbel⟩ := hrel
    have Hgr := Lib.hid hgr; clear hgr
    have Hav := Lib.hid hav
    obtain ⟨A1, c1, rfl, -, -⟩ := hav.shape
    clear hav
    obtain ⟨m, hm⟩ : ∃ m, m = n / 1000000000 ^ k := ⟨_, rfl⟩
    rw [← hm] at Hav ⊢
    have Hm := Lib.hid hm; clear hm
    by_cases hm0 : m = 0
    · subst hm0
      rw [dig_zero, List.length_nil]
      have hK : 1 ≤ k := by
        rcases Nat.eq_zero_or_pos k with hz | hz
        · subst hz
          have := Hm.out
          rw [Nat.pow_zero, Nat.div_one] at this
          omega
        · exact hz
      have hw := Wd.of_own Hgr.out.own Hgr.out.ok
      have hkl := Hgr.out.len
      obtain ⟨A3, c3, rfl, -, -⟩ := hw.shape
      rw [hkl] at hw ⊢
      obtain ⟨b3, o3, hA, hb3, hc3⟩ : ∃ b off, A3 = some ⟨b, off, none⟩ ∧ b < wr.heap.size ∧ ∀ j, j < k → wr.cell? ⟨b, off + j, none⟩ = some (.int .u32 (ds.getD j 0 : Nat)) := by
        obtain ⟨A', c', he, -, -, -, h4⟩ := hw
        injection he with e1 e2 e3
        subst e1
        obtain ⟨b, off, h5, h6, h7⟩ := h4 (by omega)
        exact ⟨b, off, h5, h6, fun j hj => h7 j (by omega)⟩
      subst hA
      clear hw hkl
      have hkn : k ≤ 2000 := groups_few Hgr.out.top Hlt.out
      have HC := Lib.hid hc3; clear hc3
      have Hbel := Lib.hid hbel; clear hbel
      go_wp2_with fail
      have hbld : Lib.IsBuilderF 124 5 wr.heap.size wr.heap.size (Lib.byteCells []) (wr.alloc (.cells #[.pointer none, .slice none 0 0] 124)) :=
        .inl ⟨Nat.le_refl _, .slice none 0 0, heap_alloc_new _ _, World.ownsRowF_nil _ _ _ _, by simp [Value.ownBlock]⟩
      have hb0 := below_alloc wr (.cells #[.pointer none, .slice none 0 0] 124)
      go_loopw [7] (fun iv wx => ∃ j : Nat, iv = .int .i64 ((j : Int) - 1) ∧ j ≤ k ∧ Lib.IsBuilderF 124 5 wr.heap.size wr.heap.size (Lib.byteCells (if j = k then [] else dec (n / 1000000000 ^ j))) wx ∧ Below wr.heap.size wr wx) (fun iv _ => (intOf iv + 1).toNat)
      case atStart => exact ⟨k, rfl, Nat.le_refl _, by rw [if_pos rfl]; exact hbld, hb0⟩
      case round =>
        obtain ⟨j, rfl, hjk, hbl, hb1⟩ := hrel
        rename World => WX
        have Hbl := Lib.hid hbl; clear hbl
        by_cases hj0 : j = 0
        · subst hj0
          have hfin : (if 0 = k then ([] : List UInt8) else dec (n / 1000000000 ^ 0)) = dec n := by rw [if_neg (by omega), Nat.pow_zero, Nat.div_one]
          rw [hfin] at Hbl
          clear hfin
          go_wp2_with fail
          refine (Tryz.Builder_String_any_k _ _ _ _ Hbl.out hb1.size).mono ?_
          rintro e w5 ⟨rfl, -, hb5, -⟩
          go_wp2
          go_ret
          exact ⟨rfl, Hbel.out.trans ((hb1.mono (Nat.le_refl _)).trans hb5 |>.mono Hbel.out.size)⟩
        · obtain ⟨j, rfl⟩ : ∃ i, j = i + 1 := ⟨j - 1, by omega⟩
          have hce := (hb1.cell (p := ⟨b3, o3 + j, none⟩) hb3).trans (HC.out j (by omega))
          obtain ⟨g, hg⟩ : ∃ g, g = ds.getD j 0 := ⟨_, rfl⟩
          rw [← hg] at hce
          have hgv := Hgr.out.at_ j (by omega)
          rw [← hg] at hgv
          have hgl : g < 1000000000 := by rw [hgv]; exact Nat.mod_lt _ (by decide)
          have Hgv := Lib.hid hgv; clear hgv hg
          have hjn : 0 ≤ ((j : Nat) : Int) := by omega
          have i1 : ((j + 1 : Nat) : Int) - 1 = (j : Int) := by omega
          rw [i1]
          clear i1
          have HT1 : Hid (Tab WX) := Lib.hid (tab_below (tab_below Htab.out Hbel.out) hb1)
          go_wp2_with fail
          refine (formatUint_pub g (by omega) WX HT1.out).mono ?_
          rintro e w5 ⟨rfl, hb5⟩
          have hdl1 := dec_len g
          have hdl9 := group_len g hgl
          obtain ⟨sg, hsg⟩ : ∃ s : ByteArray, s = ⟨(dec g).toArray⟩ := ⟨_, rfl⟩
          have hsz : sg.size = (dec g).length := by rw [hsg]; rfl
          rw [← hsz] at hdl1 hdl9
          rw [← hsg]
          have Hsg := Lib.hid hsg; clear hsg
          have Hsz := Lib.hid hsz; clear hsz
          have hB5 := Lib.hid (builder_later Hbl.out hb5)
          have hb6 := hb1.trans (hb5.mono hb1.size)
          by_cases hjk1 : j + 1 = k
          · rw [if_pos hjk1] at hB5
            have hlen0 : (Lib.byteCells ([] : List UInt8)).length = 0 := rfl
            go_wp2_with (first
              | (go_at_call 88; refine (Tryz.Builder_Len_f _ _ _ _ hB5.out).mono ?_; rintro e w6 ⟨rfl, rfl⟩)
              | (go_at_call 89; refine (bWrite _ _ _ sg _ hB5.out (by rw [hlen0]; omega) hb6.size).mono ?_; rintro e w6 ⟨rfl, hB6, hb7⟩))
            go_roundw
            case rel =>
              refine ⟨j, rfl, by omega, ?_, hb6.trans hb7⟩
              have e : (if j = k then ([] : List UInt8) else dec (n / 1000000000 ^ j)) = dec g := by
                rw [if_neg (by omega), Hgv.out]
                congr 1
                have := Hm.out
                rw [← hjk1, gdiv_succ] at this
                omega
              rw [e]
              have e2 : Lib.byteCells ([] : List UInt8) ++ Lib.strCells sg = Lib.byteCells (dec g) := by rw [Hsg.out]; rfl
              rw [e2] at hB6
              exact hB6
            case measure => simp [intOf]
          · rw [if_neg hjk1] at hB5
            obtain ⟨q, hq⟩ : ∃ q, q = n / 1000000000 ^ (j + 1) := ⟨_, rfl⟩
            rw [← hq] at hB5
            have hq0 : 0 < q := by
              rw [hq]
              exact gdiv_pos ((Hgr.out.top).resolve_left (by omega)) (by omega)
            have hql : (dec q).length ≤ 10000 := dec_len_words (Nat.lt_of_le_of_lt (by rw [hq]; exact Nat.div_le_self _ _) Hlt.out) (by decide)
            have hq1 := dec_len q
            obtain ⟨lq, hlq⟩ : ∃ x, x = (Lib.byteCells (dec q)).length := ⟨_, rfl⟩
            have hlq2 : lq = (dec q).length := by rw [hlq, Lib.byteCells_length]
            rw [← hlq2] at hql hq1
            have Hlq2 := Lib.hid hlq2; clear hlq2
            have Hq := Lib.hid hq; clear hq
            obtain ⟨pad, hpad⟩ : ∃ x : Nat, x = 9 - sg.size := ⟨_, rfl⟩
            have hpi : (9 : Int) - (sg.size : Int) = (pad : Int) := by omega
            have hpl : pad ≤ 8 := by omega
            have Hpad := Lib.hid hpad; clear hpad
            obtain ⟨zs, hzs⟩ : ∃ s : ByteArray, s = ⟨(Lib.repeatL [48] pad).toArray⟩ := ⟨_, rfl⟩
            have hzl : zs.size = pad := by
              have h1 : zs.size = (Lib.repeatL [48] pad).length := by rw [hzs]; rfl
              rw [h1, Lib.repeatL_length]; simp
            have Hlq := Lib.hid hlq; clear hlq
            go_wp2_with (first
              | (go_at_call 88; refine (Tryz.Builder_Len_f _ _ _ _ hB5.out).mono ?_; rintro e w6 ⟨rfl, rfl⟩; rw [← Hlq.out]))
            refine (Tryz.strings_Repeat ⟨#[48]⟩ pad _ (by omega) (by show 1 * pad ≤ _; omega)).mono ?_
            rintro e w7 ⟨rfl, hb7⟩
            have ez : (⟨(Lib.repeatL (⟨#[48]⟩ : ByteArray).data.toList pad).toArray⟩ : ByteArray) = zs := hzs.symm
            rw [ez]
            clear ez
            have Hzs := Lib.hid hzs; clear hzs
            have hB7 := Lib.hid (builder_later hB5.out hb7); clear hB5
            have hb8 := hb6.trans (hb7.mono hb6.size)
            go_wp2_with fail
            refine (bWrite _ _ _ zs _ hB7.out (by rw [← Hlq.out]; omega) hb8.size).mono ?_
            rintro e w8 ⟨rfl, hB8, hb9⟩
            have hB8' := Lib.hid hB8; clear hB8
            have hb10 := hb8.trans hb9
            go_wp2_with fail
            refine (bWrite _ _ _ sg _ hB8'.out (by rw [List.length_append, Lib.strCells_length, ← Hlq.out]; omega) hb10.size).mono ?_
            rintro e w9 ⟨rfl, hB9, hb11⟩
            have HB9 := Lib.hid hB9; clear hB9
            go_wp2
            go_roundw
            case rel =>
              refine ⟨j, rfl, by omega, ?_, hb10.trans hb11⟩
              have e : (if j = k then ([] : List UInt8) else dec (n / 1000000000 ^ j)) = dec q ++ (List.replicate (9 - (dec g).length) 48 ++ dec g) := by
                have hqe : n / 1000000000 ^ j / 1000000000 = q := by rw [Hq.out, gdiv_succ]
                rw [if_neg (by omega), dec_group _ (by rw [hqe]; exact hq0), hqe, ← Hgv.out]
              rw [e]
              have e2 : Lib.byteCells (dec q) ++ Lib.strCells zs ++ Lib.strCells sg = Lib.byteCells (dec q ++ (List.replicate (9 - (dec g).length) 48 ++ dec g)) := by
                have e3 : Lib.strCells zs = Lib.byteCells (List.replicate (9 - (dec g).length) 48) := by
                  have e4 := Lib.repeatL_replicate 48 1 pad
                  rw [Hzs.out, ← Hsz.out, ← Hpad.out]
                  show Lib.byteCells (Lib.repeatL [48] pad) = _
                  rw [Nat.mul_one] at e4
                  exact congrArg _ e4
                have e5 : Lib.strCells sg = Lib.byteCells (dec g) := by rw [Hsg.out]; rfl
                rw [e3, e5, Lib.byteCells_append, Lib.byteCells_append, List.append_assoc]
              rw [← e2]
              exact HB9.out
            case measure => simp [intOf]
    · have hm1 : 0 < m := by omega
      have hml : 0 < (dig m).length := dig_len_pos.2 hm1
      obtain ⟨ml, hml'⟩ : ∃ ml, ml = (dig m).length := ⟨_, rfl⟩
      rw [← hml'] at Hav hml ⊢
      have hml2 : (dig m).length ≤ 1000000 := Nat.le_trans (dig_len_mono (by rw [Hm.out]; exact Nat.div_le_self _ _)) (by have := Hlx.out; omega)
      have Hml2 := Lib.hid hml2; clear hml2
      have Hml' := Lib.hid hml'; clear hml'
      go_wp2_with fail
      refine (divideWord_fr m 1000000000 _ wr (Hav.out) Hml2.out (by decide) (by decide)).mono ?_
      rintro e w1 ⟨r, rfl, hr, hfr, hb1⟩
      obtain ⟨A2, n2, c2, rfl⟩ := hr.slice_
      have hg32 : m % 1000000000 < 4294967296 := by have := Nat.mod_lt m (show 0 < 1000000000 by decide); omega
      obtain ⟨g, hg⟩ : ∃ g, g = m % 1000000000 := ⟨_, rfl⟩
      rw [← hg] at hg32 ⊢
      have Hg := Lib.hid hg; clear hg
      have hown := Hgr.out.own
      have hown1 : w1.ownsRow w.heap.size 66 1 u3 ds.length (ds.map uw) := own_below hown hb1
      have hb2 := hbel.trans (hb1.mono hbel.size)
      have hsl := own_slice hown
      have hkl := Hgr.out.len
      have hk2 : k ≤ 2000 := groups_few Hgr.out.top Hlt.out
      clear hb1 hbel
      go_wp2_with (at_builtin; refine wpList_append_own _ rfl _ _ 22 rfl w.heap.size 66 i0 (.int .u32 0) 1 4 Tryz.underlying22 hi hz0 hz1 hz2 rfl (by decide) _ _ _ rfl (hown1.alloc _) ⟨w1.heap.size, 0, none⟩ 1 1 [uw g] rfl rfl ?c1 ?c2 ?c3 ?c4 ?c5 ?_)
      case c1 =>
        intro j u hj
        match j, hj with
        | 0, hj => simp at hj; subst hj; simp [Addr.add, uw]
      case c2 => intro u hu; simp at hu; subst hu; rfl
      case c3 => unfold maxLen; omega
      case c4 => omega
      case c5 => have := hb2.size; simp; omega
      intro v' w2 hown' hgrow _
      have hb3 : Below w.heap.size w w2 := (hb2.alloc hb2.size _).grown hgrow (by have := hb2.size; simp; omega) (fun k hk => (hown1.lt k hk).1)
      have hr2 : Wd w2 (.slice A2 n2 c2) (dig (m / 1000000000)) := wd_grown (hr.below (below_alloc _ _)) hgrow (fun a n c e k hk => by have h1 := hfr a n c e; have h2 := (hown.lt k hk).2; omega)
      have hown2 : w2.ownsRow w.heap.size 66 1 v' (ds ++ [g]).length ((ds ++ [g]).map uw) := by
        rw [List.length_append, List.map_append, List.length_singleton, hkl]; exact hown'
      have hsl2 := own_slice hown2
      have Ho := Lib.hid hown2; clear hown2 hown' hgrow hown1 hb2 hown hfr
      go_wp2
      go_roundw
      case rel =>
        refine ⟨k + 1, ds ++ [g], by rw [gdiv_succ, ← Hm.out]; exact hr2, ⟨by simp [hkl], Hgr.out.ok.append (Ok.mk hg32 Ok.nil), Ho.out, ?_, Or.inr (by rw [Nat.add_sub_cancel, ← Hm.out]; exact hm1)⟩, hb3⟩
        intro j hj
        by_cases e : j < k
        · rw [← Hgr.out.at_ j e]
          simp only [List.getD_eq_getElem?_getD]
          rw [List.getElem?_append_left (by rw [hkl]; exact e)]
        · have e' : j = k := by omega
          subst e'
          rw [← Hm.out, ← Hg.out, ← hkl]
          simp [List.getD_eq_getElem?_getD]
      case measure =>
        have := groups_le (n := n) (k := k + 1) (Or.inr (by rw [Nat.add_sub_cancel, ← Hm.out]; exact hm1))
        rw [List.length_append, List.length_singleton] at hsl2
        simp
        omega
end Go.Proofs.YtmlopkkbgpfdnaaGreatDoor
namespace Go.Proofs.YtmlopkkbgpfdnaaGreatDoor
open Go.RowKit

theorem heap2 (w : World) (o o' : Obj) : ((w.alloc o).alloc o').heap[w.heap.size + 1]? = some o' := by
  have h := heap_alloc_new (w.alloc o) o'
  rwa [show (w.alloc o).heap.size = w.heap.size + 1 by simp] at h
theorem cell_heap2 (w : World) (o : Obj) (cs : Array Value) (t : TypeId) (i : Nat) (v : Value) (h : cs[i]? = some v) : ((w.alloc (.cells cs t)).alloc o).cell? ⟨w.heap.size, i, none⟩ = some v := by
  have hb := below_alloc (w.alloc (.cells cs t)) o
  refine (hb.cell (p := ⟨w.heap.size, i, none⟩) (by simp)).trans ?_
  rw [World.cell?_alloc_new]; exact h
theorem str_append (a b : List UInt8) : (⟨a.toArray⟩ : ByteArray) ++ ⟨b.toArray⟩ = ⟨(a ++ b).toArray⟩ := by
  apply ByteArray.ext
  simp

/-- the decimal text of a whole number -/
def txt (z : Int) : List UInt8 := if z < 0 then 45 :: dec z.natAbs else dec z.natAbs

set_option maxHeartbeats 400000 in
set_option maxRecDepth 100000 in
theorem zText_any (z : Int) (a : Value) (w : World) (ha : ZV w a z) (hlen : (dig z.natAbs).length ≤ 1000) (htab : Tab w) :
    Calls Tryz.prog 37 #[a] w fun e w' => e = .returned (.string ⟨(txt z).toArray⟩) ∧ Below w.heap.size w w' := by
  obtain ⟨A, n, c, rfl, hv, -, -⟩ := ha.open_
  have Hv := Lib.hid hv; clear hv ha
  have Htab := Lib.hid htab; clear htab
  by_cases hz : z < 0
  · have ht : txt z = 45 :: dec z.natAbs := by unfold txt; rw [if_pos hz]
    have hd : decide (z < 0) = true := by simp [hz]
    rw [ht, hd]
    go_enter Tryz.func37, Tryz.ntmps37
    go_wp2_with fail
    have hb0 := below_alloc w (Obj.cells #[.bool true, .slice A n c] 44)
    refine (natText_any z.natAbs _ _ (Hv.out.below hb0) hlen (tab_below Htab.out hb0)).mono ?_
    rintro e w1 ⟨rfl, hb1⟩
    have hdl : 1 + (dec z.natAbs).length ≤ 9223372036854775807 := by have := dec_len_words (lt_of_dig_len hlen) (by decide); omega
    have hap := str_append [45] (dec z.natAbs)
    have Hap := Lib.hid hap; clear hap
    go_wp2
    go_ret
    exact ⟨by rw [Hap.out]; rfl, hb0.trans (hb1.mono hb0.size)⟩
  · have ht : txt z = dec z.natAbs := by unfold txt; rw [if_neg hz]
    have hd : decide (z < 0) = false := by simp [hz]
    rw [ht, hd]
    go_enter Tryz.func37, Tryz.ntmps37
    go_wp2_with fail
    have hb0 := below_alloc w (Obj.cells #[.bool false, .slice A n c] 44)
    refine (natText_any z.natAbs _ _ (Hv.out.below hb0) hlen (tab_below Htab.out hb0)).mono ?_
    rintro e w1 ⟨rfl, hb1⟩
    go_wp2
    go_ret
    exact ⟨rfl, hb0.trans (hb1.mono hb0.size)⟩

end Go.Proofs.YtmlopkkbgpfdnaaGreatDoor
