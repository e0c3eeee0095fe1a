/- Insertion into a sorted row of stamps, as mathematics. -/
import Derived.Test.YtgjanbgehbpciaaP3
namespace Go.Proofs.Ytgjanbgehbpciaa
open Go.RowKit

/-- a stamp's cells: where, which -/
structure So where
  A : Option Addr
  l : List Int
def encO (w h n : Nat) (x : So) : List Value := [.int .i64 w, .int .i64 h, .slice x.A n n]
theorem encO_len (w h n : Nat) (l : List So) : (l.flatMap (encO w h n)).length = l.length * 3 := by
  induction l with
  | nil => rfl
  | cons a l ih => rw [List.flatMap_cons, List.length_append, ih, List.length_cons]; simp [encO]; omega
theorem encO_at (w h n : Nat) : ∀ (l : List So) (j : Nat) (x : So), l[j]? = some x → (l.flatMap (encO w h n))[j * 3]? = some (.int .i64 w) ∧ (l.flatMap (encO w h n))[j * 3 + 1]? = some (.int .i64 h) ∧ (l.flatMap (encO w h n))[j * 3 + 2]? = some (.slice x.A n n)
  | [], _, _, hj => by simp at hj
  | a :: l, 0, x, hj => by
    have e : a = x := by simpa using hj
    subst e
    exact ⟨rfl, rfl, rfl⟩
  | a :: l, j + 1, x, hj => by
    obtain ⟨h1, h2, h3⟩ := encO_at w h n l j x (by simpa using hj)
    rw [List.flatMap_cons, show (j + 1) * 3 = (encO w h n a).length + j * 3 by simp [encO]; omega]
    refine ⟨?_, ?_, ?_⟩
    · rw [List.getElem?_append_right (by omega), Nat.add_sub_cancel_left]; exact h1
    · rw [Nat.add_assoc, List.getElem?_append_right (by omega), Nat.add_sub_cancel_left]; exact h2
    · rw [Nat.add_assoc, List.getElem?_append_right (by omega), Nat.add_sub_cancel_left]; exact h3
theorem encO_one (w h n : Nat) (l : List So) : ∀ u ∈ l.flatMap (encO w h n), u.oneCell' = true := fun u hu => by
  obtain ⟨x, -, hx⟩ := List.mem_flatMap.1 hu
  simp [encO] at hx
  rcases hx with rfl | rfl | rfl <;> rfl
section
variable {w h n base nd j : Nat} {ds : List So} {W : World} {A : Option Addr} {cv : Nat}
theorem encO_split (j : Nat) : (ds.take j).flatMap (encO w h n) ++ (ds.drop j).flatMap (encO w h n) = ds.flatMap (encO w h n) := by rw [← List.flatMap_append, List.take_append_drop]
/-- a row of stamps in memory -/
theorem rowO (hr : W.ownsRow base 24 3 (.slice A nd cv) nd (ds.flatMap (encO w h n))) (hnd : nd = ds.length) : nd ≤ cv ∧ cv ≤ 9223372036854775807 ∧ (A = none → nd = 0) ∧
    ∀ b o s, A = some ⟨b, o, s⟩ → o = 0 ∧ s = none ∧ b < W.heap.size ∧ (∀ i u, (ds.flatMap (encO w h n))[i]? = some u → W.cell? ⟨b, i, none⟩ = some u) ∧ ∀ k x, ds[k]? = some x → W.cell? ⟨b, k * 3, none⟩ = some (.int .i64 w) ∧ W.cell? ⟨b, k * 3 + 1, none⟩ = some (.int .i64 h) ∧ W.cell? ⟨b, k * 3 + 2, none⟩ = some (.slice x.A n n) := by
  have h0 := hr
  obtain ⟨hl, ⟨e, h2⟩ | ⟨g, cap, cur, e, hg, hh, hnc, hcap, hsz, htake⟩⟩ := hr
  · injection e with e1 e2 e3
    subst e1 e2 e3
    exact ⟨Nat.le_refl _, by omega, fun _ => h2, fun b o s h => by cases h⟩
  · injection e with e1 e2 e3
    subst e1 e3
    have add : ∀ i, (⟨g, 0, none⟩ : Addr).add i = ⟨g, i, none⟩ := fun i => by unfold Addr.add; split <;> simp_all
    have hc : ∀ i u, (ds.flatMap (encO w h n))[i]? = some u → W.cell? ⟨g, i, none⟩ = some u := fun i u hu => by rw [← add]; exact h0.cells (g := g) rfl i u hu
    refine ⟨hnc, by unfold maxLen at hcap; omega, (fun h => by cases h), fun b o s h => ?_⟩
    injection h with h
    injection h with h1 h2 h3
    subst h1 h2 h3
    refine ⟨rfl, rfl, (Array.getElem?_eq_some_iff.1 hh).1, hc, fun k x hk => ?_⟩
    obtain ⟨a0, a1, a2⟩ := encO_at w h n ds k x hk
    exact ⟨hc _ _ a0, hc _ _ a1, hc _ _ a2⟩
end
section
variable {L : List (List Int)} {a : List Int} {j : Nat}
theorem ins_sorted (hL : L.Pairwise (fun a b => ltL a b = true)) (h1 : ∀ x ∈ L.take j, ltL x a = true) (h2 : ∀ y, L[j]? = some y → ltL a y = true) : (L.take j ++ [a] ++ L.drop j).Pairwise (fun a b => ltL a b = true) := by
  have hL' := hL
  rw [← List.take_append_drop j L, List.pairwise_append] at hL'
  obtain ⟨p1, p2, p3⟩ := hL'
  have h4 : ∀ y ∈ L.drop j, ltL a y = true := by
    cases hd : L.drop j with
    | nil => intro y hy; cases hy
    | cons y0 r =>
      have e0 : L[j]? = some y0 := by
        have : (L.drop j)[0]? = some y0 := by rw [hd]; rfl
        rwa [List.getElem?_drop, Nat.add_zero] at this
      have g0 := h2 y0 e0
      rw [hd, List.pairwise_cons] at p2
      intro y hy
      rcases List.mem_cons.1 hy with rfl | hy
      · exact g0
      · exact ltL_trans _ _ _ g0 (p2.1 y hy)
  rw [List.append_assoc, List.pairwise_append, List.singleton_append, List.pairwise_cons]
  refine ⟨p1, ⟨h4, p2⟩, fun x hx y hy => ?_⟩
  rcases List.mem_cons.1 hy with rfl | hy
  · exact h1 x hx
  · exact p3 x hx y hy
theorem ins_mem (c : List Int) : c ∈ L.take j ++ [a] ++ L.drop j ↔ c ∈ L ∨ c = a := by
  conv => rhs; rw [← List.take_append_drop j L]
  simp only [List.mem_append, List.mem_singleton]
  constructor
  · rintro ((h | h) | h)
    · exact .inl (.inl h)
    · exact .inr h
    · exact .inl (.inr h)
  · rintro ((h | h) | h)
    · exact .inl (.inl h)
    · exact .inr h
    · exact .inl (.inr h)
variable {w h n k : Nat} {l : List Int} {g : List Mv} {m : Mv}
theorem Orb.ins (hd : Orb w h n l (g.take k) L) (hm : g[k]? = some m) (ha : a = apl w h m l n) (h1 : ∀ x ∈ L.take j, ltL x a = true) (h2 : ∀ y, L[j]? = some y → ltL a y = true) : Orb w h n l (g.take (k + 1)) (L.take j ++ [a] ++ L.drop j) := by
  refine ⟨ins_sorted hd.1 h1 h2, fun c => ?_⟩
  rw [ins_mem, hd.2 c, List.take_add_one, hm, ha]
  constructor
  · rintro (⟨m', hm', e⟩ | e)
    · exact ⟨m', List.mem_append_left _ hm', e⟩
    · exact ⟨m, by simp, e⟩
  · rintro ⟨m', hm', e⟩
    rcases List.mem_append.1 hm' with hm' | hm'
    · exact .inl ⟨m', hm', e⟩
    · have : m' = m := by simpa using hm'
      subst this
      exact .inr e
theorem Orb.same (hd : Orb w h n l (g.take k) L) (hm : g[k]? = some m) (ha : a = apl w h m l n) (hmem : a ∈ L) : Orb w h n l (g.take (k + 1)) L := by
  refine ⟨hd.1, fun c => ?_⟩
  rw [hd.2 c, List.take_add_one, hm]
  constructor
  · rintro ⟨m', hm', e⟩
    exact ⟨m', List.mem_append_left _ hm', e⟩
  · rintro ⟨m', hm', e⟩
    rcases List.mem_append.1 hm' with hm' | hm'
    · exact ⟨m', hm', e⟩
    · have : m' = m := by simpa using hm'
      subst this
      rw [e, ← ha]
      exact (hd.2 a).1 hmem
end
end Go.Proofs.Ytgjanbgehbpciaa
