/- Flows and sides by tests: mathematics. -/
import Derived.Test.YtilcbbdmenknfaaMc
import Derived.Test.YtilcbbdmenknfaaD2
namespace Go.Proofs.Ytilcbbdmenknfaa

/-- does the flow of arc k fit? -/
def inR (a : Ar) (f : Nat → Int) (k : Nat) : Bool := bw (f k) 0 (a.c k)
/-- is it a flow? -/
def isFlB (N : Nat) (a : Ar) (f : Nat → Int) : Bool := (List.range a.n).all (inR a f) && (List.range (N - 2)).all fun i => decide (a.nw.sp f (i + 1) = 0)
theorem isFlB_iff {N : Nat} {a : Ar} {f : Nat → Int} : isFlB N a f = true ↔ (∀ k, k < a.n → 0 ≤ f k ∧ f k ≤ a.c k) ∧ ∀ i, i < N - 2 → a.nw.sp f (i + 1) = 0 := by
  unfold isFlB
  rw [Bool.and_eq_true, List.all_eq_true, List.all_eq_true]
  constructor
  · rintro ⟨h1, h2⟩
    exact ⟨fun k hk => bw_iff.1 (h1 k (List.mem_range.2 hk)), fun i hi => by simpa using h2 i (List.mem_range.2 hi)⟩
  · rintro ⟨h1, h2⟩
    exact ⟨fun k hk => bw_iff.2 (h1 k (List.mem_range.1 hk)), fun i hi => by simpa using h2 i (List.mem_range.1 hi)⟩
theorem isFlB_fl {N : Nat} {a : Ar} {f : Nat → Int} (hN : 2 ≤ N) : isFlB N a f = true ↔ a.nw.Fl N 0 (N - 1) f := by
  rw [isFlB_iff]
  constructor
  · rintro ⟨h1, h2⟩
    refine ⟨fun k hk => (h1 k hk).1, fun k hk => (h1 k hk).2, fun v hv h3 h4 => ?_⟩
    have := h2 (v - 1) (by omega)
    rwa [show v - 1 + 1 = v by omega] at this
  · rintro ⟨h1, h2, h3⟩
    exact ⟨fun k hk => ⟨h1 k hk, h2 k hk⟩, fun i hi => h3 (i + 1) (by omega) (by omega) (by omega)⟩
theorem isFlB_no1 {N : Nat} {a : Ar} {f : Nat → Int} {k : Nat} (hk : k < a.n) (h : inR a f k = false) : isFlB N a f = false := by
  cases hv : isFlB N a f
  · rfl
  · have := (isFlB_iff.1 hv).1 k hk
    rw [show inR a f k = true from bw_iff.2 this] at h; cases h
theorem isFlB_no2 {N : Nat} {a : Ar} {f : Nat → Int} {i : Nat} (hi : i < N - 2) (h : a.nw.sp f (i + 1) ≠ 0) : isFlB N a f = false := by
  cases hv : isFlB N a f
  · rfl
  · exact absurd ((isFlB_iff.1 hv).2 i hi) h
/-- one term of a cost -/
def tc (a : Ar) (s : Nat → Bool) (k : Nat) : Int := if s (a.f k).toNat = true ∧ s (a.t k).toNat = false then a.c k else 0
theorem ct_tc (a : Ar) (s : Nat → Bool) : a.nw.ct s = sm a.n (tc a s) := rfl
/-- is it a side? -/
def isSdB (N : Nat) (s : Nat → Bool) : Bool := s 0 && !s (N - 1)
theorem isSdB_iff {N : Nat} {s : Nat → Bool} : isSdB N s = true ↔ Nw.Sd 0 (N - 1) s := by unfold isSdB Nw.Sd; simp
/-- what Check answers -/
def chB (N : Nat) (a : Ar) (f : Nat → Int) (s : Nat → Bool) : Bool := isFlB N a f && isSdB N s && decide (a.nw.sp f 0 = a.nw.ct s)
/-- the answer of Check for a flow of n numbers and a side of m flags -/
def Chk (N : Int) (a : Ar) (n m : Nat) (f : Nat → Int) (s : Nat → Bool) (b : Bool) (er : Int) : Prop :=
  (vNet N a = false ∧ b = false ∧ er = 2) ∨ (vNet N a = true ∧ ((n ≠ a.n ∨ (m : Int) ≠ N) ∧ b = false ∧ er = 3 ∨ n = a.n ∧ (m : Int) = N ∧ b = chB m a f s ∧ er = 0))
theorem Chk.one {N : Int} {a : Ar} {n m : Nat} {f : Nat → Int} {s : Nat → Bool} {b c : Bool} {x y : Int} (h : Chk N a n m f s b x) (k : Chk N a n m f s c y) : b = c ∧ x = y := by
  rcases h with ⟨h1, h2, h3⟩ | ⟨h1, ⟨h4, h2, h3⟩ | ⟨h4, h5, h2, h3⟩⟩ <;> rcases k with ⟨k1, k2, k3⟩ | ⟨k1, ⟨k4, k2, k3⟩ | ⟨k4, k5, k2, k3⟩⟩
  · exact ⟨by rw [h2, k2], by omega⟩
  · rw [h1] at k1; cases k1
  · rw [h1] at k1; cases k1
  · rw [h1] at k1; cases k1
  · exact ⟨by rw [h2, k2], by omega⟩
  · rcases h4 with h4 | h4 <;> omega
  · rw [h1] at k1; cases k1
  · rcases k4 with k4 | k4 <;> omega
  · exact ⟨by rw [h2, k2], by omega⟩
end Go.Proofs.Ytilcbbdmenknfaa
