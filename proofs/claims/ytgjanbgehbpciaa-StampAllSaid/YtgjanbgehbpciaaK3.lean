/- Orbits and stabilizers, as mathematics. -/
import Derived.Test.YtgjanbgehbpciaaK2
import Derived.Test.YtgjanbgehbpciaaMw
namespace Go.Proofs.Ytgjanbgehbpciaa
open Go.RowKit

theorem len_sub {α : Type} [DecidableEq α] : ∀ (l k : List α), l.Nodup → (∀ x ∈ l, x ∈ k) → l.length ≤ k.length
  | [], _, _, _ => Nat.zero_le _
  | a :: l, k, hn, hs => by
    rw [List.nodup_cons] at hn
    have ha : a ∈ k := hs a (List.mem_cons_self ..)
    have := len_sub l (k.erase a) hn.2 (fun x hx => by
      have hne : x ≠ a := fun e => hn.1 (e ▸ hx)
      exact (List.mem_erase_of_ne hne).2 (hs x (List.mem_cons_of_mem _ hx)))
    rw [List.length_erase_of_mem ha] at this
    have hp := List.length_pos_of_mem ha
    rw [List.length_cons]
    omega
theorem nodup_map {α β : Type} {f : α → β} : ∀ {l : List α}, l.Nodup → (∀ x ∈ l, ∀ y ∈ l, f x = f y → x = y) → (l.map f).Nodup
  | [], _, _ => List.nodup_nil
  | a :: l, hn, hi => by
    rw [List.nodup_cons] at hn
    rw [List.map_cons, List.nodup_cons]
    refine ⟨fun h => ?_, nodup_map hn.2 (fun x hx y hy => hi x (List.mem_cons_of_mem _ hx) y (List.mem_cons_of_mem _ hy))⟩
    rw [List.mem_map] at h
    obtain ⟨x, hx, e⟩ := h
    exact hn.1 (hi x (List.mem_cons_of_mem _ hx) a (List.mem_cons_self ..) e ▸ hx)
section
variable {w h : Nat} {g : List Mv} {cs : List Int} {N : Nat}
theorem IsG.nodup (hG : IsG w h g) : g.Nodup := by
  have := hG.ris
  unfold Ris at this
  exact this.imp (fun hab e => by rw [e] at hab; exact Nat.lt_irrefl _ hab)
theorem aft_inj (hs : okSize w h = true) {a x y : Mv} (ha : Go.Proofs.Ytgjanbgehbpciaa.has w h a = true) (hx : Go.Proofs.Ytgjanbgehbpciaa.has w h x = true) (hy : Go.Proofs.Ytgjanbgehbpciaa.has w h y = true) (e : aft w h a x = aft w h a y) : x = y := by
  have hi := inv_has hs ha
  have h1 := aft_assoc hi ha hx
  have h2 := aft_assoc hi ha hy
  rw [inv_aft hs ha, one_aft hx] at h1
  rw [inv_aft hs ha, one_aft hy] at h2
  rw [h1, h2, e]
theorem IsG.comp (hs : okSize w h = true) (hG : IsG w h g) {a b : Mv} (ha : a ∈ g) (hb : b ∈ g) : aft w h a b ∈ g := ((isG_iff hs).1 hG).2.2.1 a ha b hb
theorem IsG.inv_ (hs : okSize w h = true) (hG : IsG w h g) {a : Mv} (ha : a ∈ g) : inv w h a ∈ g := by
  have hah := hG.has a ha
  have h1 : Mv.one ∈ g := ((isG_iff hs).1 hG).2.2.2
  by_cases hm : ∃ m ∈ g, aft w h a m = Mv.one
  · obtain ⟨m, hm, e⟩ := hm
    have hmh := hG.has m hm
    have : inv w h a = m := aft_inj hs hah (inv_has hs hah) hmh (by rw [aft_inv hs hah, e])
    rw [this]; exact hm
  · exfalso
    have hnd : (g.map (aft w h a)).Nodup := nodup_map hG.nodup (fun x hx y hy e => aft_inj hs hah (hG.has x hx) (hG.has y hy) e)
    have hlt := len_sub (g.map (aft w h a)) (g.erase Mv.one) hnd (fun x hx => by
      rw [List.mem_map] at hx
      obtain ⟨m, hmm, rfl⟩ := hx
      have hne : aft w h a m ≠ Mv.one := fun e => hm ⟨m, hmm, e⟩
      exact (List.mem_erase_of_ne hne).2 (hG.comp hs ha hmm))
    rw [List.length_map, List.length_erase_of_mem h1] at hlt
    have := List.length_pos_of_mem h1
    omega
theorem apl_ext (hN : N = w * h) {a b : List Int} (ha : a.length = N) (hb : b.length = N) (he : ∀ i, i < N → a.getD i 0 = b.getD i 0) : a = b := by
  apply List.ext_getElem (by rw [ha, hb])
  intro i h1 h2
  have := he i (by omega)
  rw [List.getD_eq_getElem?_getD, List.getD_eq_getElem?_getD, List.getElem?_eq_getElem h1, List.getElem?_eq_getElem h2] at this
  simpa using this
/-- a move keeps the cells if it makes the same -/
theorem kpm_iff (hs : okSize w h = true) (hN : N = w * h) (hc : cs.length = N) {m : Mv} (hm : Go.Proofs.Ytgjanbgehbpciaa.has w h m = true) : kpm w h m cs = true ↔ apl w h m cs N = cs := by
  have hs' := okSize_iff.1 hs
  unfold kpm
  rw [decide_eq_true_iff]
  have hg : ∀ i, (goalAt w h m i).toNat = gN w h m i := fun _ => rfl
  constructor
  · intro hk
    refine apl_ext hN (by rw [apl_len, hN]) hc (fun j hj => ?_)
    have hj' : j < w * h := by omega
    have hf := gN_forth hs hm hj'
    have hi := (gN_in (h := h) (inv w h m) j (by omega : 1 ≤ w) (by omega)).1
    have h1 := apl_at hs hm cs N (by omega) (gN w h (inv w h m) j) (by omega)
    have h2 := hk _ hi
    rw [hg, hf] at h2
    rw [hf] at h1
    rw [h1, h2]
  · intro he i hi
    have h1 := apl_at hs hm cs N (by omega) i (by omega)
    rw [he] at h1
    rw [hg]; exact h1
theorem apl_comp (hs : okSize w h = true) (hN : N = w * h) {a b : Mv} (ha : Go.Proofs.Ytgjanbgehbpciaa.has w h a = true) (hb : Go.Proofs.Ytgjanbgehbpciaa.has w h b = true) : apl w h (aft w h a b) cs N = apl w h a (apl w h b cs N) N := by
  rw [hN]; exact apl_aft hs ha hb cs
theorem apl_one (hs : okSize w h = true) (hN : N = w * h) (hc : cs.length = N) : apl w h Mv.one cs N = cs := by
  refine (kpm_iff hs hN hc (one_has hs)).1 ?_
  have hs' := okSize_iff.1 hs
  unfold kpm
  rw [decide_eq_true_iff]
  intro i hi
  rw [show (goalAt w h Mv.one i).toNat = gN w h Mv.one i from rfl, gN_one hs hi]
theorem apl_back (hs : okSize w h = true) (hN : N = w * h) (hc : cs.length = N) {a : Mv} (ha : Go.Proofs.Ytgjanbgehbpciaa.has w h a = true) : apl w h (inv w h a) (apl w h a cs N) N = cs := by
  rw [← apl_comp hs hN (inv_has hs ha) ha, inv_aft hs ha, apl_one hs hN hc]

/-- the list is told by its members -/
theorem srt_ext : ∀ {l k : List (List Int)}, l.Pairwise (fun a b => ltL a b = true) → k.Pairwise (fun a b => ltL a b = true) → (∀ x, x ∈ l ↔ x ∈ k) → l = k
  | [], [], _, _, _ => rfl
  | [], b :: k, _, _, he => by have := (he b).2 (List.mem_cons_self ..); cases this
  | a :: l, [], _, _, he => by have := (he a).1 (List.mem_cons_self ..); cases this
  | a :: l, b :: k, hl, hk, he => by
    rw [List.pairwise_cons] at hl hk
    have nl : ∀ x y, ltL x y = true → ltL y x = true → False := fun x y h1 h2 => by have := ltL_trans x y x h1 h2; rw [ltL_irrefl] at this; cases this
    have hab : a = b := by
      rcases List.mem_cons.1 ((he a).1 (List.mem_cons_self ..)) with h1 | h1
      · exact h1
      · rcases List.mem_cons.1 ((he b).2 (List.mem_cons_self ..)) with h2 | h2
        · exact h2.symm
        · exact (nl _ _ (hk.1 a h1) (hl.1 b h2)).elim
    subst hab
    have irr : ∀ x, ltL a x = true → x ≠ a := fun x hx e => by rw [e, ltL_irrefl] at hx; cases hx
    have := srt_ext hl.2 hk.2 (fun x => by
      constructor
      · intro hx
        rcases List.mem_cons.1 ((he x).1 (List.mem_cons_of_mem _ hx)) with h1 | h1
        · exact (irr x (hl.1 x hx) h1).elim
        · exact h1
      · intro hx
        rcases List.mem_cons.1 ((he x).2 (List.mem_cons_of_mem _ hx)) with h1 | h1
        · exact (irr x (hk.1 x hx) h1).elim
        · exact h1)
    rw [this]
theorem Orb.uniq {L K : List (List Int)} (hL : Orb w h N cs g L) (hK : Orb w h N cs g K) : L = K := srt_ext hL.1 hK.1 (fun c => (hL.2 c).trans (hK.2 c).symm)
/-- all of an orbit have this orbit -/
theorem Orb.move (hs : okSize w h = true) (hN : N = w * h) (hc : cs.length = N) (hG : IsG w h g) {L : List (List Int)} (hL : Orb w h N cs g L) {a : Mv} (ha : a ∈ g) : Orb w h N (apl w h a cs N) g L := by
  refine ⟨hL.1, fun c => (hL.2 c).trans ⟨?_, ?_⟩⟩
  · rintro ⟨m, hm, rfl⟩
    refine ⟨aft w h m (inv w h a), hG.comp hs hm (hG.inv_ hs ha), ?_⟩
    rw [apl_comp hs hN (hG.has m hm) (inv_has hs (hG.has a ha)), apl_back hs hN hc (hG.has a ha)]
  · rintro ⟨m, hm, rfl⟩
    exact ⟨aft w h m a, hG.comp hs hm ha, (apl_comp hs hN (hG.has m hm) (hG.has a ha)).symm⟩

theorem fibers {α : Type} {φ : α → List Int} {k : Nat} : ∀ (L : List (List Int)) (g : List α), L.Nodup → (∀ m ∈ g, φ m ∈ L) → (∀ c ∈ L, (g.filter (fun m => decide (φ m = c))).length = k) → g.length = k * L.length
  | [], g, _, hm, _ => by
    cases g with
    | nil => simp
    | cons m g => have := hm m (List.mem_cons_self ..); cases this
  | c :: L, g, hn, hm, hk => by
    rw [List.nodup_cons] at hn
    have hp : g.length = (g.filter (fun m => decide (φ m = c))).length + (g.filter (fun m => !decide (φ m = c))).length := by
      clear hm hk
      induction g with
      | nil => rfl
      | cons m g ih =>
        rw [List.filter_cons, List.filter_cons]
        cases decide (φ m = c) <;> simp <;> omega
    have ih := fibers (φ := φ) (k := k) L (g.filter (fun m => !decide (φ m = c))) hn.2 (fun m hmm => by
      rw [List.mem_filter] at hmm
      rcases List.mem_cons.1 (hm m hmm.1) with h1 | h1
      · simp [h1] at hmm
      · exact h1) (fun d hd => by
      refine Eq.trans ?_ (hk d (List.mem_cons_of_mem _ hd))
      rw [List.filter_filter]
      congr 1
      refine List.filter_congr fun m _ => ?_
      have hdc : d ≠ c := fun e => hn.1 (e ▸ hd)
      by_cases e : φ m = d
      · simp [e, hdc]
      · simp [e])
    rw [hp, hk c (List.mem_cons_self ..), ih, List.length_cons, Nat.mul_succ, Nat.add_comm]
/-- the sizes of the stabilizer and of the orbit -/
theorem Orb.count (hs : okSize w h = true) (hN : N = w * h) (hc : cs.length = N) (hG : IsG w h g) {L : List (List Int)} (hL : Orb w h N cs g L) : (g.filter (fun m => kpm w h m cs)).length * L.length = g.length := by
  have hLn : L.Nodup := hL.1.imp (fun hab e => by rw [e, ltL_irrefl] at hab; cases hab)
  refine (fibers (φ := fun m => apl w h m cs N) L g hLn (fun m hm => (hL.2 _).2 ⟨m, hm, rfl⟩) (fun c hcL => ?_)).symm
  obtain ⟨a, ha, rfl⟩ := (hL.2 c).1 hcL
  have hah := hG.has a ha
  have key : ∀ (b : Mv) (c d : List Int), b ∈ g → apl w h b c N = d → (g.filter (fun m => decide (apl w h m cs N = c))).length ≤ (g.filter (fun m => decide (apl w h m cs N = d))).length := fun b c d hb hbc => by
    have hbh := hG.has b hb
    have hnd : ((g.filter (fun m => decide (apl w h m cs N = c))).map (aft w h b)).Nodup := nodup_map (List.Pairwise.filter _ hG.nodup) (fun x hx y hy e => aft_inj hs hbh (hG.has x (List.mem_filter.1 hx).1) (hG.has y (List.mem_filter.1 hy).1) e)
    have := len_sub _ (g.filter (fun m => decide (apl w h m cs N = d))) hnd (fun x hx => by
      rw [List.mem_map] at hx
      obtain ⟨m, hm, rfl⟩ := hx
      rw [List.mem_filter] at hm ⊢
      have hmc := of_decide_eq_true hm.2
      refine ⟨hG.comp hs hb hm.1, decide_eq_true ?_⟩
      rw [apl_comp hs hN hbh (hG.has m hm.1), hmc, hbc])
    rwa [List.length_map] at this
  have e1 : g.filter (fun m => kpm w h m cs) = g.filter (fun m => decide (apl w h m cs N = cs)) := by
    refine List.filter_congr fun m hm => ?_
    rw [Bool.eq_iff_iff, kpm_iff hs hN hc (hG.has m hm), decide_eq_true_iff]
  rw [e1]
  exact Nat.le_antisymm (key (inv w h a) _ _ (hG.inv_ hs ha) (apl_back hs hN hc hah)) (key a _ _ ha rfl)
theorem apl_isCol (hs : okSize w h = true) (hN : N = w * h) (hc : cs.length = N) {m : Mv} (hm : Go.Proofs.Ytgjanbgehbpciaa.has w h m = true) (ha : cs.all isCol = true) : (apl w h m cs N).all isCol = true := by
  have hs' := okSize_iff.1 hs
  rw [List.all_eq_true] at ha ⊢
  intro x hx
  obtain ⟨j, hj, rfl⟩ := List.getElem_of_mem hx
  rw [apl_len] at hj
  have hf := gN_forth hs hm hj
  have hi := (gN_in (h := h) (inv w h m) j (by omega : 1 ≤ w) (by omega)).1
  have h1 := apl_at hs hm cs N (by omega) (gN w h (inv w h m) j) (by omega)
  rw [hf, List.getD_eq_getElem?_getD, List.getElem?_eq_getElem (by rw [apl_len]; exact hj), List.getD_eq_getElem?_getD, List.getElem?_eq_getElem (by omega)] at h1
  simp only [Option.getD_some] at h1
  rw [h1]
  exact ha _ (List.getElem_mem _)
end
theorem vst_apl {w h n : Nat} {l : List Int} {m : Mv} (hv : vst w h l = true) (hn : n = w * h) (hl : l.length = n) (hm : has w h m = true) : vst w h (apl w h m l n) = true := by
  unfold vst at hv ⊢
  simp only [Bool.and_eq_true, decide_eq_true_eq] at hv ⊢
  refine ⟨⟨hv.1.1, ?_⟩, apl_isCol hv.1.1 hn hl hm hv.2⟩
  rw [apl_len]; simp
end Go.Proofs.Ytgjanbgehbpciaa
