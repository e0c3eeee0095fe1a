/- Walks: Valid, allValid. -/
import Derived.Test.YtmlopkkbgpfdnaaW11
namespace Go.Proofs.Ytmlopkkbgpfdnaa
open Go.RowKit

/-- is a struct of a sign and words the only form of its number? -/
def vld (neg : Bool) (l : List Nat) : Bool := if l.length = 0 then !neg else (decide (l.length ≤ 256) && !decide (l.getD (l.length - 1) 0 = 0))

/-- the number that it stands for -/
def numOf (neg : Bool) (l : List Nat) : Int := if neg then -(val l : Int) else (val l : Int)

theorem vld_len {neg : Bool} {l : List Nat} (h : vld neg l = true) : l.length ≤ 256 := by
  unfold vld at h
  split at h
  · omega
  · simp at h; exact h.1
theorem vld_norm {neg : Bool} {l : List Nat} (h : vld neg l = true) : Norm l := by
  unfold vld at h
  split at h
  · rename_i h0
    rw [List.eq_nil_of_length_eq_zero h0]; exact Norm.nil
  · rename_i h0
    simp at h
    unfold Norm
    rw [List.getLast?_eq_getElem?]
    have hl : l.length - 1 < l.length := by omega
    rw [List.getElem?_eq_getElem hl]
    have h2 := h.2
    rw [List.getElem?_eq_getElem hl] at h2
    simpa using h2
theorem vld_dig {neg : Bool} {l : List Nat} (ho : Ok l) (h : vld neg l = true) : dig (numOf neg l).natAbs = l := by
  have : (numOf neg l).natAbs = val l := by unfold numOf; split <;> omega
  rw [this]
  exact dig_val ho (vld_norm h)
theorem vld_neg {neg : Bool} {l : List Nat} (ho : Ok l) (h : vld neg l = true) : neg = decide (numOf neg l < 0) := by
  unfold numOf
  cases neg
  · simp
  · have hne : l.length ≠ 0 := by
      intro h0; unfold vld at h; rw [if_pos h0] at h; simp at h
    have hp := val_pos_of_norm (vld_norm h) (by intro e; rw [e] at hne; simp at hne)
    simp; omega
theorem vld_zv {w : World} {neg : Bool} {v : Value} {l : List Nat} (hv : Wd w v l) (h : vld neg l = true) : ZV w (.agg #[.bool neg, v]) (numOf neg l) :=
  ZV.mk (vld_neg hv.ok h) (by rw [vld_dig hv.ok h]; exact hv)

theorem below1 (w : World) (o : Obj) : Below w.heap.size w (w.alloc o) := below_alloc w o

set_option maxRecDepth 100000 in
/-- exact.Valid -/
theorem validE_any (neg : Bool) (A : Option Addr) (n c : Nat) (l : List Nat) (w : World) (hv : Wd w (.slice A n c) l) :
    Calls Try.prog 14 #[.agg #[.bool neg, .slice A n c]] w fun e w' => e = .returned (.bool (vld neg l)) ∧ Below w.heap.size w w' := by
  have hb := below1 w (Obj.cells #[.bool neg, .slice A n c] 24)
  have Hb := Lib.hid hb; clear hb
  have hn := hv.len
  have hl := hv.len_le
  obtain ⟨A', c', he, -, -, hok, hcells⟩ := hv
  injection he with e1 e2 e3
  subst e1 e3
  rw [← e2] at hcells
  clear e2
  by_cases h0 : n = 0
  · subst h0
    have hr : vld neg l = !neg := by unfold vld; rw [if_pos hn.symm]
    have Hr := Lib.hid hr; clear hr hcells hn
    go_enter Try.func14, Try.ntmps14
    go_wp2
    go_ret
    exact ⟨by rw [Hr.out]; rfl, Hb.out⟩
  · obtain ⟨b, off, rfl, hbl, hc⟩ := hcells (by omega)
    have h1 := hc (n - 1) (by omega)
    obtain ⟨x, hx⟩ : ∃ x, x = l.getD (n - 1) 0 := ⟨_, rfl⟩
    rw [← hx] at h1
    have h1' : (w.alloc (Obj.cells #[.bool neg, .slice (some ⟨b, off, none⟩) n c] 24)).cell? ⟨b, off + (n - 1), none⟩ = some (.int .u32 x) := by rw [World.cell?_alloc_past _ _ _ hbl]; exact h1
    have hr : vld neg l = (decide (n ≤ 256) && !decide (x = 0)) := by unfold vld; rw [if_neg (by omega), ← hn, ← hx]
    have Hr := Lib.hid hr; clear hr hcells hc hx hn
    by_cases h2 : n ≤ 256
    · have h2b : decide ((n : Int) ≤ 256) = true := by simp; omega
      by_cases h3 : x = 0
      · subst h3
        go_enter Try.func14, Try.ntmps14
        go_wp2
        go_ret
        exact ⟨by rw [Hr.out]; simp [h2], Hb.out⟩
      · have h4 : ((x : Int) != 0) = true := by simp; omega
        go_enter Try.func14, Try.ntmps14
        go_wp2
        go_ret
        exact ⟨by rw [Hr.out]; simp [h2, h3], Hb.out⟩
    · have h4 : decide ((n : Int) ≤ 256) = false := by simp; omega
      go_enter Try.func14, Try.ntmps14
      go_wp2
      go_ret
      exact ⟨by rw [Hr.out]; simp [h2], Hb.out⟩

set_option maxRecDepth 100000 in
/-- exact.allValid -/
theorem allValid_any (m cap g : Nat) (N : Nat → Bool) (AA : Nat → Option Addr) (nn cc : Nat → Nat) (L : Nat → List Nat) (w : World) (hm : m ≤ 1000) (hg : g < w.heap.size)
    (h0 : ∀ i, i < m → w.cell? ⟨g, i * 2, none⟩ = some (.bool (N i))) (h1 : ∀ i, i < m → w.cell? ⟨g, i * 2 + 1, none⟩ = some (.slice (AA i) (nn i) (cc i)))
    (hL : ∀ i, i < m → Wd w (.slice (AA i) (nn i) (cc i)) (L i)) :
    Calls Try.prog 48 #[.slice (some ⟨g, 0, none⟩) m cap] w fun e w' => e = .returned (.bool ((List.range m).all fun i => vld (N i) (L i))) ∧ Below w.heap.size w w' := by
  have H0 := Lib.hid h0; clear h0
  have H1 := Lib.hid h1; clear h1
  have HL := Lib.hid hL; clear hL
  go_enter Try.func48, Try.ntmps48
  go_wp2_with fail
  go_loopw [7] (fun i wr => ∃ k : Nat, i = .int .i64 k ∧ k ≤ m ∧ Below w.heap.size w wr ∧ ∀ j, j < k → vld (N j) (L j) = true) (fun i _ => m - (intOf i).toNat)
  case atStart => exact ⟨0, rfl, Nat.zero_le _, Below.refl _ _, fun j hj => by omega⟩
  case round =>
    obtain ⟨k, rfl, hk, hbel, hall⟩ := hrel
    have HA := Lib.hid hall; clear hall
    by_cases hlt : k < m
    · have a0 := (hbel.cell (p := ⟨g, k * 2, none⟩) hg).trans (H0.out k hlt)
      have a1 := (hbel.cell (p := ⟨g, k * 2 + 1, none⟩) hg).trans (H1.out k hlt)
      have hl := (HL.out k hlt).below hbel
      obtain ⟨p, hp⟩ : ∃ p, p = N k := ⟨_, rfl⟩
      obtain ⟨A, hA⟩ : ∃ A, A = AA k := ⟨_, rfl⟩
      obtain ⟨n, hn⟩ : ∃ n, n = nn k := ⟨_, rfl⟩
      obtain ⟨c, hc⟩ : ∃ c, c = cc k := ⟨_, rfl⟩
      rw [← hA, ← hn, ← hc] at a1 hl
      rw [← hp] at a0
      clear hA hn hc
      have Hp := Lib.hid hp; clear hp
      have Hl := Lib.hid hl; clear hl
      go_wp2_with fail
      have hb2 := below1 wr (Obj.cells #[.bool p, .slice A n c] 24)
      refine (validE_any p A n c (L k) _ (Hl.out.below hb2)).mono ?_
      rintro e w2 ⟨rfl, hb3⟩
      have hb4 := hbel.trans ((hb2.trans (hb3.mono (by simp))).mono hbel.size)
      clear hb2 hb3
      by_cases hvd : vld p (L k) = true
      · rw [hvd]
        have Hvd := Lib.hid hvd; clear hvd
        go_wp2
        go_roundw
        case rel =>
          refine ⟨k + 1, by go_num, by omega, hb4, fun j hj => ?_⟩
          by_cases e : j = k
          · rw [e, ← Hp.out]; exact Hvd.out
          · exact HA.out j (by omega)
        case measure => simp [intOf]; omega
      · have hvf : vld p (L k) = false := by simpa using hvd
        have hr : ((List.range m).all fun i => vld (N i) (L i)) = false := by
          rw [List.all_eq_false]
          exact ⟨k, List.mem_range.2 hlt, by rw [← Hp.out]; exact hvd⟩
        have Hr := Lib.hid hr; clear hr hvd
        rw [hvf]
        clear hvf
        go_wp2
        go_ret
        exact ⟨by rw [Hr.out]; rfl, hb4⟩
    · have hr : ((List.range m).all fun i => vld (N i) (L i)) = true := by
        rw [List.all_eq_true]
        intro i hi
        exact HA.out i (by have := List.mem_range.1 hi; omega)
      have Hr := Lib.hid hr; clear hr
      go_wp2
      go_ret
      exact ⟨by rw [Hr.out]; rfl, hbel⟩
end Go.Proofs.Ytmlopkkbgpfdnaa
