/- The groups that moves make, in order; what a group is. -/
import Derived.Test.YtgjanbgehbpciaaC3
namespace Go.Proofs.Ytgjanbgehbpciaa
open Go.RowKit

open Classical in
/-- what moves make, in order -/
noncomputable def grp (w h : Nat) (ms : List Mv) : List Mv := (mvs w h (pos w h 2 0 0 0)).filter (fun m => decide (Gen w h ms m))
theorem grp_congr {w h : Nat} {ms ns : List Mv} (he : ∀ g, Gen w h ms g ↔ Gen w h ns g) : grp w h ms = grp w h ns := by
  have : Gen w h ms = Gen w h ns := funext fun g => propext (he g)
  unfold grp; rw [this]
/-- the moves that are marked among the first k -/
def fnd (w h : Nat) (bs : List Bool) (k : Nat) : List Mv := ((List.range k).filter (fun n => bs.getD n false)).map (dec w h)
theorem fnd_zero (w h : Nat) (bs : List Bool) : fnd w h bs 0 = [] := rfl
theorem fnd_yes {w h k : Nat} {bs : List Bool} (hb : bs.getD k false = true) : fnd w h bs (k + 1) = fnd w h bs k ++ [dec w h k] := by
  unfold fnd
  have : List.filter (fun n => bs.getD n false) [k] = [k] := by rw [List.filter_cons, if_pos hb]; rfl
  rw [List.range_succ, List.filter_append, List.map_append, this]; rfl
theorem fnd_no {w h k : Nat} {bs : List Bool} (hb : bs.getD k false = false) : fnd w h bs (k + 1) = fnd w h bs k := by
  unfold fnd
  have : List.filter (fun n => bs.getD n false) [k] = [] := by rw [List.filter_cons, if_neg (by rw [hb]; decide)]; rfl
  rw [List.range_succ, List.filter_append, List.map_append, this, List.map_nil, List.append_nil]
theorem fnd_len (w h : Nat) (bs : List Bool) (k : Nat) : (fnd w h bs k).length ≤ k := by
  unfold fnd
  have := List.length_filter_le (fun n => bs.getD n false) (List.range k)
  simpa using this
theorem fnd_grp {w h : Nat} {ms : List Mv} {bs : List Bool} (hs : okSize w h = true) (hg : GB w h ms bs) (hh : ∀ n, bs.getD n false = true → has w h (dec w h n) = true) : fnd w h bs (pos w h 2 0 0 0) = grp w h ms := by
  have hs' := okSize_iff.1 hs
  unfold fnd grp mvs
  rw [List.filter_filter, List.filter_map]
  congr 1
  refine List.filter_congr fun n hn => ?_
  rw [List.mem_range] at hn
  have hnm := nm_dec (w := w) (h := h) (by omega) (by omega) hn
  rw [Bool.eq_iff_iff]
  simp only [Function.comp, Bool.and_eq_true, decide_eq_true_eq]
  constructor
  · intro hb
    have h1 := hh n hb
    exact ⟨(hg.2 _ h1).1 (by rw [hnm]; exact hb), h1⟩
  · rintro ⟨h1, h2⟩
    have := (hg.2 _ h2).2 h1
    rwa [hnm] at this

theorem mvs_mem {w h : Nat} {m : Mv} : m ∈ mvs w h (pos w h 2 0 0 0) ↔ has w h m = true := by
  unfold mvs
  rw [List.mem_filter, List.mem_map]
  constructor
  · exact fun h => h.2
  · exact fun hm => ⟨⟨nm w h m, List.mem_range.2 (nm_bd hm), dec_nm hm⟩, hm⟩
theorem grp_mem {w h : Nat} {ms : List Mv} (hs : okSize w h = true) (hms : ∀ m ∈ ms, has w h m = true) {m : Mv} : m ∈ grp w h ms ↔ Gen w h ms m := by
  unfold grp
  rw [List.mem_filter, mvs_mem]
  simp only [decide_eq_true_eq]
  exact ⟨fun h => h.2, fun h => ⟨h.has_ hs hms, h⟩⟩
/-- rising in the order of moves -/
def Ris (w h : Nat) (g : List Mv) : Prop := g.Pairwise (fun a b => nm w h a < nm w h b)
theorem mvs_ris {w h : Nat} (hs : okSize w h = true) : Ris w h (mvs w h (pos w h 2 0 0 0)) := by
  have hs' := okSize_iff.1 hs
  unfold Ris mvs
  refine List.Pairwise.filter _ ?_
  rw [List.pairwise_map]
  refine List.Pairwise.imp_of_mem ?_ List.pairwise_lt_range
  intro a b ha hb hab
  rw [List.mem_range] at ha hb
  rw [nm_dec (by omega) (by omega) ha, nm_dec (by omega) (by omega) hb]
  exact hab
theorem ris_ext {w h : Nat} : ∀ {l k : List Mv}, Ris w h l → Ris w h k → (∀ x, x ∈ l ↔ x ∈ k) → l = k
  | [], [], _, _, _ => rfl
  | [], b :: k, _, _, he => by have := (he b).2 (List.mem_cons_self ..); cases this
  | a :: l, [], _, _, he => by have := (he a).1 (List.mem_cons_self ..); cases this
  | a :: l, b :: k, hl, hk, he => by
    unfold Ris at hl hk
    rw [List.pairwise_cons] at hl hk
    have hab : a = b := by
      rcases List.mem_cons.1 ((he a).1 (List.mem_cons_self ..)) with h1 | h1
      · exact h1
      · rcases List.mem_cons.1 ((he b).2 (List.mem_cons_self ..)) with h2 | h2
        · exact h2.symm
        · have := hk.1 a h1; have := hl.1 b h2; omega
    subst hab
    have := ris_ext (l := l) (k := k) hl.2 hk.2 (fun x => by
      constructor
      · intro hx
        rcases List.mem_cons.1 ((he x).1 (List.mem_cons_of_mem _ hx)) with h1 | h1
        · subst h1; have := hl.1 x hx; omega
        · exact h1
      · intro hx
        rcases List.mem_cons.1 ((he x).2 (List.mem_cons_of_mem _ hx)) with h1 | h1
        · subst h1; have := hk.1 x hx; omega
        · exact h1)
    rw [this]
/-- a group of a size: its moves, rising, with all that they make -/
structure IsG (w h : Nat) (g : List Mv) : Prop where
  has : ∀ m ∈ g, has w h m = true
  ris : Ris w h g
  gen : ∀ m, Gen w h g m → m ∈ g
open Classical in
noncomputable def grpB (w h : Nat) (g : List Mv) : Bool := decide (IsG w h g)
theorem grpB_t {w h : Nat} {g : List Mv} (hg : IsG w h g) : grpB w h g = true := by unfold grpB; simp [hg]
theorem grpB_f {w h : Nat} {g : List Mv} (hg : ¬ IsG w h g) : grpB w h g = false := by unfold grpB; simp [hg]
theorem grpB_iff {w h : Nat} {g : List Mv} : grpB w h g = true ↔ IsG w h g := by unfold grpB; simp
section
variable {w h : Nat} {g : List Mv}
theorem grp_ris (hs : okSize w h = true) (g : List Mv) : Ris w h (grp w h g) := List.Pairwise.filter _ (mvs_ris hs)
theorem IsG.grp_eq (hs : okSize w h = true) (hg : IsG w h g) : grp w h g = g :=
  ris_ext (grp_ris hs g) hg.ris (fun x => (grp_mem hs hg.has).trans ⟨hg.gen x, fun hx => Gen.self hs hg.has hx⟩)
theorem isG_of_len (hs : okSize w h = true) (hh : ∀ m ∈ g, Go.Proofs.Ytgjanbgehbpciaa.has w h m = true) (hr : Ris w h g) (hl : (grp w h g).length = g.length) : IsG w h g := by
  refine ⟨hh, hr, fun m hm => ?_⟩
  have e : g = (grp w h g).filter (fun m => decide (m ∈ g)) := by
    refine ris_ext hr (List.Pairwise.filter _ (grp_ris hs g)) (fun x => ?_)
    rw [List.mem_filter, grp_mem hs hh]
    simp only [decide_eq_true_eq]
    exact ⟨fun hx => ⟨Gen.self hs hh hx, hx⟩, fun hx => hx.2⟩
  have hsub : g.Sublist (grp w h g) := by
    have := List.filter_sublist (p := fun m => decide (m ∈ g)) (l := grp w h g)
    rwa [← e] at this
  have := hsub.eq_of_length hl.symm
  rw [this]
  exact (grp_mem hs hh).2 hm
/-- how many moves a group has tells that it is one -/
theorem grpB_len (hs : okSize w h = true) (hh : ∀ m ∈ g, Go.Proofs.Ytgjanbgehbpciaa.has w h m = true) (hr : Ris w h g) : grpB w h g = decide ((grp w h g).length = g.length) := by
  by_cases hl : (grp w h g).length = g.length
  · rw [decide_eq_true hl]; exact grpB_t (isG_of_len hs hh hr hl)
  · rw [decide_eq_false hl]; exact grpB_f fun hg => hl (by rw [hg.grp_eq hs])
theorem ris_mvs (hs : okSize w h = true) (hh : ∀ m ∈ g, Go.Proofs.Ytgjanbgehbpciaa.has w h m = true) (hr : Ris w h g) : (mvs w h (pos w h 2 0 0 0)).filter (fun m => decide (m ∈ g)) = g := by
  refine ris_ext (List.Pairwise.filter _ (mvs_ris hs)) hr (fun x => ?_)
  rw [List.mem_filter, mvs_mem]
  simp only [decide_eq_true_eq]
  exact ⟨fun hx => hx.2, fun hx => ⟨hh x hx, hx⟩⟩
theorem ris_len (hs : okSize w h = true) (hh : ∀ m ∈ g, Go.Proofs.Ytgjanbgehbpciaa.has w h m = true) (hr : Ris w h g) : g.length ≤ pos w h 2 0 0 0 := by
  have h1 := List.length_filter_le (fun m => decide (m ∈ g)) (mvs w h (pos w h 2 0 0 0))
  rw [ris_mvs hs hh hr] at h1
  exact Nat.le_trans h1 (mvs_len _ _ _)
theorem grp_len (w h : Nat) (g : List Mv) : (grp w h g).length ≤ pos w h 2 0 0 0 := Nat.le_trans (List.length_filter_le _ _) (mvs_len _ _ _)
/-- the definition by pairs -/
theorem isG_iff (hs : okSize w h = true) : IsG w h g ↔ (∀ m ∈ g, Go.Proofs.Ytgjanbgehbpciaa.has w h m = true) ∧ (mvs w h (pos w h 2 0 0 0)).filter (fun m => decide (m ∈ g)) = g ∧ (∀ a ∈ g, ∀ b ∈ g, aft w h a b ∈ g) ∧ Mv.one ∈ g := by
  constructor
  · intro hg
    exact ⟨hg.has, ris_mvs hs hg.has hg.ris, fun a ha b hb => hg.gen _ (.step ha (Gen.self hs hg.has hb)), hg.gen _ .one⟩
  · rintro ⟨hh, he, hc, h1⟩
    refine ⟨hh, by rw [← he]; exact List.Pairwise.filter _ (mvs_ris hs), fun m hm => ?_⟩
    induction hm with
    | one => exact h1
    | step hm _ ih => exact hc _ hm _ ih
end
end Go.Proofs.Ytgjanbgehbpciaa
