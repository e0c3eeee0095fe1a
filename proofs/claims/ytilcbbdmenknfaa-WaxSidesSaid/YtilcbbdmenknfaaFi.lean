/- Filling a network until there is no more way: mathematics. -/
import Derived.Test.YtilcbbdmenknfaaAd
namespace Go.Proofs.Ytilcbbdmenknfaa

/-- a rest beside a flow from s to t -/
structure Fp (G : Nw) (N s t : Nat) (x : Nat → Int) : Prop where
  rs : G.Rs x
  cons : ∀ v, v < N → v ≠ s → v ≠ t → G.sp (Nw.fw x) v = 0
/-- .. beside a greatest one -/
structure Full (G : Nw) (N s t : Nat) (x : Nat → Int) : Prop where
  fp : Fp G N s t x
  no : ∃ R la rk, G.Wk N s (fun j => decide (0 < x j)) R la rk ∧ R t = false

/-- before anything flows, when the first k arcs have been set -/
def xs (c : Nat → Int) (k : Nat) : Nat → Int := fun j => if j % 2 = 0 ∧ j / 2 < k then c (j / 2) else 0
theorem xs_zero (c : Nat → Int) : xs c 0 = fun _ => 0 := by funext j; unfold xs; rw [if_neg (by omega)]
theorem xs_succ (c : Nat → Int) (k : Nat) : up (xs c k) (2 * k) (c k) = xs c (k + 1) := by
  funext j
  unfold up xs
  by_cases e : j = 2 * k
  · subst e; rw [if_pos rfl, if_pos (by omega)]; congr 1; omega
  · rw [if_neg e]
    by_cases h : j % 2 = 0 ∧ j / 2 < k
    · rw [if_pos h, if_pos (by omega)]
    · rw [if_neg h, if_neg (by omega)]
theorem Fp.start {G : Nw} (N s t : Nat) (hc : ∀ k, k < G.m → 0 ≤ G.cp k) : Fp G N s t (xs G.cp G.m) := by
  have h0 : ∀ k, xs G.cp G.m (2 * k + 1) = 0 := fun k => by unfold xs; rw [if_neg (by omega)]
  have h1 : ∀ k, k < G.m → xs G.cp G.m (2 * k) = G.cp k := fun k hk => by unfold xs; rw [if_pos (by omega)]; congr 1; omega
  refine ⟨⟨fun k hk => by rw [h0, h1 k hk]; omega, fun j hj => ?_⟩, fun v _ _ _ => ?_⟩
  · unfold xs; split
    · exact hc _ (by omega)
    · omega
  · unfold Nw.sp Nw.fw
    refine Eq.trans (sm_congr (g := fun _ => 0) fun k _ => ?_) (sm_zero _)
    rw [h0]; simp
theorem Nw.sp_le (G : Nw) {x : Nat → Int} (h : G.Rs x) (v : Nat) : G.sp (fw x) v ≤ sm G.m G.cp := by
  refine sm_le fun k hk => ?_
  have a := h.sum k hk
  have b := h.nn (2 * k) (by omega)
  have c := h.nn (2 * k + 1) (by omega)
  unfold fw
  split <;> split <;> omega
theorem Fp.more {G : Nw} {N s t : Nat} {x : Nat → Int} {w : List Nat} {r : Int} (h : Fp G N s t x) (hne : s ≠ t) (hr : 1 ≤ r) (hc : G.Ch t w s) (hn : w.Nodup) (hw : ∀ j ∈ w, j < 2 * G.m ∧ r ≤ x j) :
    Fp G N s t (Nw.augs x w r) ∧ G.sp (Nw.fw (Nw.augs x w r)) s = G.sp (Nw.fw x) s + r := by
  have hsp := fun v => G.sp_augs (r := r) v (x := x) (fun j hj => (hw j hj).1) hc
  refine ⟨⟨Nw.Rs.augs G (by omega) h.rs hn hw, fun v hv h1 h2 => ?_⟩, ?_⟩
  · rw [hsp, h.cons v hv h1 h2, if_neg (fun e => h1 e.symm), if_neg (fun e => h2 e.symm)]; omega
  · rw [hsp, if_pos rfl, if_neg (fun e => hne e.symm)]; omega

/-- how much more may go from a network's source -/
def room (G : Nw) (s : Nat) (x : Nat → Int) : Nat := (sm G.m G.cp - G.sp (Nw.fw x) s).toNat
theorem room_less {G : Nw} {N s t : Nat} {x y : Nat → Int} {r : Int} (hy : Fp G N s t y) (hr : 1 ≤ r) (h : G.sp (Nw.fw y) s = G.sp (Nw.fw x) s + r) : room G s y < room G s x := by
  have := G.sp_le hy.rs s
  unfold room
  omega

/-- a greatest flow and its two sides -/
theorem Full.side {G : Nw} {N s t : Nat} {x : Nat → Int} (hN : G.In N) (hs : s < N) (ht : t < N) (h : Full G N s t x) : ∃ S, Nw.Sd s t S ∧ G.ct S = G.sp (Nw.fw x) s := by
  obtain ⟨R, la, rk, hw, hR⟩ := h.no
  refine ⟨R, ⟨hw.root, hR⟩, (G.tight hN hs h.fp.rs h.fp.cons ⟨hw.root, hR⟩).2 fun j hj hx hS => hw.closed j hj (by simpa using hx) hS⟩
theorem Fp.weak {G : Nw} {N s t : Nat} {x : Nat → Int} {S : Nat → Bool} (h : Fp G N s t x) (hN : G.In N) (hs : s < N) (hS : Nw.Sd s t S) : G.sp (Nw.fw x) s ≤ G.ct S := G.weak hN hs (h.rs.fl G h.cons) hS
end Go.Proofs.Ytilcbbdmenknfaa
