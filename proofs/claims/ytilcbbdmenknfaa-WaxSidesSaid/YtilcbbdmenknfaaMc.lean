/- The least cost of a side: mathematics. -/
import Derived.Test.YtilcbbdmenknfaaC9
namespace Go.Proofs.Ytilcbbdmenknfaa

/-- v is the least cost of a side -/
structure Mc (G : Nw) (s t : Nat) (v : Int) : Prop where
  is : ∃ S, Nw.Sd s t S ∧ G.ct S = v
  le : ∀ S, Nw.Sd s t S → v ≤ G.ct S
theorem Mc.one {G : Nw} {s t : Nat} {v w : Int} (h : Mc G s t v) (k : Mc G s t w) : v = w := by
  obtain ⟨S, h1, h2⟩ := h.is
  obtain ⟨T, h3, h4⟩ := k.is
  have := h.le T h3
  have := k.le S h1
  omega
theorem Full.mc {G : Nw} {N s t : Nat} {x : Nat → Int} (hN : G.In N) (hs : s < N) (ht : t < N) (h : Full G N s t x) : Mc G s t (G.sp (Nw.fw x) s) :=
  ⟨h.side hN hs ht, fun _ hS => h.fp.weak hN hs hS⟩
theorem Ar.Ok.in_ {a : Ar} {N : Nat} {M : Int} (h : a.Ok N M) : a.nw.In N := fun k hk => by
  have h1 := h.f0 k hk; have h2 := h.fN k hk; have h3 := h.t0 k hk; have h4 := h.tN k hk
  refine ⟨?_, ?_⟩
  · show (a.f k).toNat < N; omega
  · show (a.t k).toNat < N; omega

/-- the two arcs of awake -/
def aw : Ar := ⟨2, fun k => if k = 0 then 0 else 1, fun k => if k = 0 then 1 else 2, fun k => if k = 0 then 3 else 2⟩
theorem aw_v : vNet 3 aw = true := by decide
theorem aw_two {v : Int} (h : Mc aw.nw 0 2 v) : v = 2 := by
  obtain ⟨S, h1, h2⟩ := h.is
  have h3 := h.le (fun i => decide (i < 2)) ⟨by decide, by decide⟩
  have e : ∀ S, aw.nw.ct S = (if S 0 = true ∧ S 1 = false then 3 else 0) + (if S 1 = true ∧ S 2 = false then 2 else 0) := by
    intro S
    have d : aw.nw.ct S = (0 + (if S 0 = true ∧ S 1 = false then 3 else 0)) + (if S 1 = true ∧ S 2 = false then 2 else 0) := rfl
    rw [d]; omega
  rw [e] at h3 h2
  simp at h3
  have a0 := h1.1
  have a2 := h1.2
  rw [a0, a2] at h2
  cases hb : S 1 <;> simp [hb] at h2 <;> omega
end Go.Proofs.Ytilcbbdmenknfaa
