/- The least and the greatest minimum side: mathematics. -/
import Derived.Test.YtilcbbdmenknfaaMc
namespace Go.Proofs.Ytilcbbdmenknfaa

/-- S is a minimum side -/
structure Ms (G : Nw) (s t : Nat) (S : Nat → Bool) : Prop where
  sd : Nw.Sd s t S
  le : ∀ T, Nw.Sd s t T → G.ct S ≤ G.ct T
/-- .. the least one, on the nodes below N -/
def Lst (G : Nw) (N s t : Nat) (L : Nat → Bool) : Prop := Ms G s t L ∧ ∀ S, Ms G s t S → ∀ v, v < N → L v = true → S v = true
/-- .. the greatest one -/
def Gst (G : Nw) (N s t : Nat) (L : Nat → Bool) : Prop := Ms G s t L ∧ ∀ S, Ms G s t S → ∀ v, v < N → S v = true → L v = true

theorem Ms.mc {G : Nw} {s t : Nat} {S : Nat → Bool} (h : Ms G s t S) : Mc G s t (G.ct S) := ⟨⟨S, h.sd, rfl⟩, h.le⟩
theorem Mc.ms {G : Nw} {s t : Nat} {v : Int} (h : Mc G s t v) {S : Nat → Bool} (hS : Nw.Sd s t S) (hv : G.ct S = v) : Ms G s t S := ⟨hS, fun T hT => by rw [hv]; exact h.le T hT⟩
theorem Full.ms {G : Nw} {N s t : Nat} {x : Nat → Int} (hN : G.In N) (hs : s < N) (ht : t < N) (h : Full G N s t x) {S : Nat → Bool} : Ms G s t S ↔ Nw.Sd s t S ∧ G.Clo x S := by
  have hm := h.mc hN hs ht
  constructor
  · intro k
    exact ⟨k.sd, (G.tight hN hs h.fp.rs h.fp.cons k.sd).1 (k.mc.one hm)⟩
  · rintro ⟨k1, k2⟩
    exact hm.ms k1 ((G.tight hN hs h.fp.rs h.fp.cons k1).2 k2)
theorem Full.lst {G : Nw} {N s t : Nat} {x : Nat → Int} (hN : G.In N) (hs : s < N) (ht : t < N) (h : Full G N s t x) {R : Nat → Bool} {la rk : Nat → Nat} (hw : G.Wk N s (fun j => decide (0 < x j)) R la rk) : Lst G N s t R := by
  have hcl : G.Clo x R := fun j hj hx hS => hw.closed j hj (by simpa using hx) hS
  obtain ⟨R', la', rk', hw', hR'⟩ := h.no
  have hRt : R t = false := by
    cases e : R t
    · rfl
    · have := hw.least G (S := R') hw'.root (fun j hj ho hS => hw'.closed j hj ho hS) t ht e
      rw [hR'] at this; cases this
  refine ⟨(h.ms hN hs ht).2 ⟨⟨hw.root, hRt⟩, hcl⟩, fun S hS v hv hR => ?_⟩
  obtain ⟨k1, k2⟩ := (h.ms hN hs ht).1 hS
  exact hw.least G (S := S) k1.1 (fun j hj ho hS => k2 j hj (by simpa using ho) hS) v hv hR
theorem Full.gst {G : Nw} {N s t : Nat} {x : Nat → Int} (hN : G.In N) (hs : s < N) (ht : t < N) (h : Full G N s t x) {Q : Nat → Bool} {la rk : Nat → Nat} (hw : G.Wk N t (fun j => decide (0 < x (rev j))) Q la rk) : Gst G N s t (fun v => !Q v) := by
  have key : ∀ S, Nw.Sd s t S → G.Clo x S → ∀ v, v < N → Q v = true → S v = false := by
    intro S hS hC v hv hQ
    have := hw.least G (S := fun v => !S v) (by simp [hS.2]) (fun j hj ho hj2 => by
      simp at hj2 ⊢
      cases e : S (G.hd j)
      · rfl
      · have h1 := hC (rev j) (rev_lt hj) (by simpa using ho) (by rw [G.tl_rev]; exact e)
        rw [G.hd_rev, hj2] at h1; cases h1) v hv hQ
    simpa using this
  obtain ⟨R, la', rk', hw', hR⟩ := h.no
  have hRc : G.Clo x R := fun j hj hx hS => hw'.closed j hj (by simpa using hx) hS
  have hQs : Q s = false := by
    cases e : Q s
    · rfl
    · have := key R ⟨hw'.root, hR⟩ hRc s hs e
      rw [hw'.root] at this; cases this
  have hcl : G.Clo x (fun v => !Q v) := fun j hj hx hS => by
    simp at hS ⊢
    cases e : Q (G.hd j)
    · rfl
    · have h1 := hw.closed (rev j) (rev_lt hj) (by rw [rev_rev]; simpa using hx) (by rw [G.tl_rev]; exact e)
      rw [G.hd_rev, hS] at h1; cases h1
  refine ⟨(h.ms hN hs ht).2 ⟨⟨by simp [hQs], by simp [hw.root]⟩, hcl⟩, fun S hS v hv hSv => ?_⟩
  obtain ⟨k1, k2⟩ := (h.ms hN hs ht).1 hS
  cases e : Q v
  · simp [e]
  · have := key S k1 k2 v hv e
    rw [hSv] at this; cases this
end Go.Proofs.Ytilcbbdmenknfaa
