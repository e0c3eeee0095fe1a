/- Goals of moves: one after another, and back. -/
import Derived.Test.YtgjanbgehbpciaaV11
namespace Go.Proofs.Ytgjanbgehbpciaa

/-- the place of a goal -/
theorem gN_place {w h : Nat} (m : Mv) (i : Nat) (hw : 1 ≤ w) (hh : 1 ≤ h) :
    ((gN w h m i % w : Nat) : Int) = ((spin m.f m.t.toNat (((i % w : Nat) : Int), ((i / w : Nat) : Int))).1 + m.dx) % w ∧ ((gN w h m i / w : Nat) : Int) = ((spin m.f m.t.toNat (((i % w : Nat) : Int), ((i / w : Nat) : Int))).2 + m.dy) % h := by
  have e := (gN_in (h := h) m i hw hh).2
  unfold goalAt at e
  obtain ⟨q, hq⟩ : ∃ q : Int, q = ((spin m.f m.t.toNat (((i % w : Nat) : Int), ((i / w : Nat) : Int))).2 + m.dy) % h := ⟨_, rfl⟩
  obtain ⟨p, hp⟩ : ∃ p : Int, p = ((spin m.f m.t.toNat (((i % w : Nat) : Int), ((i / w : Nat) : Int))).1 + m.dx) % w := ⟨_, rfl⟩
  rw [← hq, ← hp] at e ⊢
  have q0 : 0 ≤ q := by rw [hq]; exact Int.emod_nonneg _ (by omega)
  have p0 : 0 ≤ p := by rw [hp]; exact Int.emod_nonneg _ (by omega)
  have p1 : p < w := by rw [hp]; exact Int.emod_lt_of_pos _ (by omega)
  clear hp hq
  obtain ⟨a, rfl⟩ : ∃ a : Nat, q = a := ⟨q.toNat, by omega⟩
  obtain ⟨b, rfl⟩ : ∃ b : Nat, p = b := ⟨p.toNat, by omega⟩
  have e' : gN w h m i = w * a + b := by
    have : ((w * a + b : Nat) : Int) = a * w + b := by simp [Int.mul_comm]
    omega
  rw [e', Nat.mul_add_mod, Nat.mul_add_div (by omega), Nat.mod_eq_of_lt (by omega), Nat.div_eq_of_lt (by omega), Nat.add_zero]
  exact ⟨rfl, rfl⟩

/-- the goals of one move after another -/
theorem gN_aft {w h : Nat} {a b : Mv} (hs : okSize w h = true) (ha : has w h a = true) (hb : has w h b = true) (i : Nat) : gN w h (aft w h a b) i = gN w h a (gN w h b i) := by
  rw [okSize_iff] at hs
  rw [has_iff] at ha hb
  obtain ⟨_, _, _, _, a0, a4, ae⟩ := ha
  obtain ⟨_, _, _, _, b0, b4, be⟩ := hb
  obtain ⟨p1, p2⟩ := gN_place (h := h) b i (by omega : 1 ≤ w) (by omega)
  have e1 := (gN_in (h := h) (aft w h a b) i (by omega : 1 ≤ w) (by omega)).2
  have e2 := (gN_in (h := h) a (gN w h b i) (by omega : 1 ≤ w) (by omega)).2
  have hg : goalAt w h (aft w h a b) i = goalAt w h a (gN w h b i) := by
    unfold goalAt
    rw [p1, p2]
    obtain ⟨x, hx⟩ : ∃ x : Int, x = ((i % w : Nat) : Int) := ⟨_, rfl⟩
    obtain ⟨y, hy⟩ : ∃ y : Int, y = ((i / w : Nat) : Int) := ⟨_, rfl⟩
    rw [← hx, ← hy]
    have hcomp := spin_comp (fa := a.f) (fb := b.f) a0 a4 b0 b4 (x, y)
    have hcg := spin_cg (w := (w : Int)) (h := (h : Int)) (f := a.f) a0 a4 ae (cg_mod w ((spin b.f b.t.toNat (x, y)).1 + b.dx)) (cg_mod h ((spin b.f b.t.toNat (x, y)).2 + b.dy))
    have hadd := spin_add (f := a.f) a0 a4 (spin b.f b.t.toNat (x, y)).1 (spin b.f b.t.toNat (x, y)).2 b.dx b.dy
    have t1 : ((spin (aft w h a b).f (aft w h a b).t.toNat (x, y)).1 + (aft w h a b).dx) % (w : Int) = ((spin a.f a.t.toNat (((spin b.f b.t.toNat (x, y)).1 + b.dx) % (w : Int), ((spin b.f b.t.toNat (x, y)).2 + b.dy) % (h : Int))).1 + a.dx) % (w : Int) := by
      show ((spin (a.f != b.f) (tsum a.f a.t b.t).toNat (x, y)).1 + ((spin a.f a.t.toNat (b.dx, b.dy)).1 + a.dx) % w) % w = _
      rw [hcomp]
      refine cg_eq (((Cg.refl _ _).add (cg_mod w _)).trans ?_)
      refine Cg.trans ?_ ((hcg.1.symm).add (Cg.refl w a.dx))
      rw [hadd.1]
      refine ⟨0, ?_⟩
      rw [Int.mul_zero, Int.add_zero, Int.add_assoc]
    have t2 : ((spin (aft w h a b).f (aft w h a b).t.toNat (x, y)).2 + (aft w h a b).dy) % (h : Int) = ((spin a.f a.t.toNat (((spin b.f b.t.toNat (x, y)).1 + b.dx) % (w : Int), ((spin b.f b.t.toNat (x, y)).2 + b.dy) % (h : Int))).2 + a.dy) % (h : Int) := by
      show ((spin (a.f != b.f) (tsum a.f a.t b.t).toNat (x, y)).2 + ((spin a.f a.t.toNat (b.dx, b.dy)).2 + a.dy) % h) % h = _
      rw [hcomp]
      refine cg_eq (((Cg.refl _ _).add (cg_mod h _)).trans ?_)
      refine Cg.trans ?_ ((hcg.2.symm).add (Cg.refl h a.dy))
      rw [hadd.2]
      refine ⟨0, ?_⟩
      rw [Int.mul_zero, Int.add_zero, Int.add_assoc]
    rw [t1, t2]
  omega

theorem gN_one {w h : Nat} (hs : okSize w h = true) {i : Nat} (hi : i < w * h) : gN w h Mv.one i = i := by
  rw [okSize_iff] at hs
  have hy : i / w < h := Nat.div_lt_of_lt_mul hi
  have hx : i % w < w := Nat.mod_lt _ (by omega)
  have e := Nat.div_add_mod i w
  have hg : goalAt w h Mv.one i = (i : Int) := by
    show (((i / w : Nat) : Int) + 0) % h * w + (((i % w : Nat) : Int) + 0) % w = i
    rw [Int.add_zero, Int.add_zero, Int.emod_eq_of_lt (Int.natCast_nonneg _) (Int.ofNat_lt.2 hy), Int.emod_eq_of_lt (Int.natCast_nonneg _) (Int.ofNat_lt.2 hx)]
    have : ((i / w : Nat) : Int) * w = ((w * (i / w) : Nat) : Int) := by rw [Int.natCast_mul, Int.mul_comm]
    omega
  unfold gN
  omega

theorem gN_back {w h : Nat} {m : Mv} (hs : okSize w h = true) (hm : has w h m = true) {i : Nat} (hi : i < w * h) : gN w h (inv w h m) (gN w h m i) = i := by
  rw [← gN_aft hs (inv_has hs hm) hm, inv_aft hs hm, gN_one hs hi]
theorem gN_forth {w h : Nat} {m : Mv} (hs : okSize w h = true) (hm : has w h m = true) {i : Nat} (hi : i < w * h) : gN w h m (gN w h (inv w h m) i) = i := by
  rw [← gN_aft hs hm (inv_has hs hm), aft_inv hs hm, gN_one hs hi]

theorem apl_at {w h : Nat} {m : Mv} (hs : okSize w h = true) (hm : has w h m = true) (cs : List Int) : ∀ k, k ≤ w * h → ∀ i, i < k → (apl w h m cs k).getD (gN w h m i) 0 = cs.getD i 0 := by
  have hs' := okSize_iff.1 hs
  intro k
  induction k with
  | zero => intro _ i hi; omega
  | succ k ih =>
    intro hk i hi
    rw [apl_succ]
    have hin := (gN_in (h := h) m i (by omega : 1 ≤ w) (by omega)).1
    by_cases e : i = k
    · subst e
      rw [List.getD_eq_getElem?_getD, List.getElem?_set, if_pos rfl, if_pos (by rw [apl_len]; exact hin)]
      rfl
    · have hne : gN w h m k ≠ gN w h m i := fun e' => e (by
        have h1 := gN_back hs hm (i := i) (by omega)
        have h2 := gN_back hs hm (i := k) (by omega)
        rw [e'] at h2; omega)
      rw [List.getD_eq_getElem?_getD, List.getElem?_set_ne hne, ← List.getD_eq_getElem?_getD]
      exact ih (by omega) i (by omega)

theorem apl_aft {w h : Nat} {a b : Mv} (hs : okSize w h = true) (ha : has w h a = true) (hb : has w h b = true) (cs : List Int) :
    apl w h (aft w h a b) cs (w * h) = apl w h a (apl w h b cs (w * h)) (w * h) := by
  have hs' := okSize_iff.1 hs
  have hab := aft_has hs ha hb
  apply List.ext_getElem (by rw [apl_len, apl_len])
  intro j h1 h2
  rw [apl_len] at h1
  have e1 : (apl w h (aft w h a b) cs (w * h)).getD j 0 = (apl w h a (apl w h b cs (w * h)) (w * h)).getD j 0 := by
    obtain ⟨i, hi, rfl⟩ : ∃ i, i < w * h ∧ gN w h (aft w h a b) i = j := ⟨gN w h (inv w h (aft w h a b)) j, (gN_in (h := h) _ _ (by omega : 1 ≤ w) (by omega)).1, gN_forth hs hab h1⟩
    rw [apl_at hs hab cs _ (Nat.le_refl _) i hi, gN_aft hs ha hb, apl_at hs ha _ _ (Nat.le_refl _) _ (gN_in (h := h) b i (by omega : 1 ≤ w) (by omega)).1, apl_at hs hb cs _ (Nat.le_refl _) i hi]
  rw [List.getD_eq_getElem?_getD, List.getD_eq_getElem?_getD, List.getElem?_eq_getElem (by rw [apl_len]; exact h1), List.getElem?_eq_getElem (by rw [apl_len]; exact h1)] at e1
  simpa using e1
end Go.Proofs.Ytgjanbgehbpciaa
