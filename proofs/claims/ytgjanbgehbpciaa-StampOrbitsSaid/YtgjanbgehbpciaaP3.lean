/- Appends one after another, among others in whatever order. -/
import Derived.Test.YtgjanbgehbpciaaPoolE
import Derived.Test.YtgjanbgehbpciaaP2
namespace Go.Proofs.Ytgjanbgehbpciaa
open Go.RowKit

/-- blocks below B stay; of rows of stamps the first a stay, and the next where it is already what is laid there -/
def Ea (B a : Nat) (mk : List Value) (X Y : World) : Prop :=
  Below B X Y ∧ ∀ g cur, B ≤ g → X.heap[g]? = some (.cells cur 24 (0, 0)) →
    ∃ cur' : Array Value, Y.heap[g]? = some (.cells cur' 24 (0, 0)) ∧ cur'.size = cur.size ∧ ∀ i, (i < a * 3 ∨ (i < a * 3 + 3 ∧ cur[i]? = mk[i - a * 3]?)) → cur'[i]? = cur[i]?
section
variable {B a : Nat} {mk : List Value} {X Y Z : World}
theorem Ea.refl (X : World) : Ea B a mk X X := ⟨Below.refl _ _, fun _ cur _ h => ⟨cur, h, rfl, fun _ _ => rfl⟩⟩
theorem Ea.trans (h : Ea B a mk X Y) (k : Ea B a mk Y Z) : Ea B a mk X Z := by
  refine ⟨h.1.trans k.1, fun g cur hg hc => ?_⟩
  obtain ⟨c1, h1, h2, h3⟩ := h.2 g cur hg hc
  obtain ⟨c2, k1, k2, k3⟩ := k.2 g c1 hg h1
  refine ⟨c2, k1, k2.trans h2, fun i hi => ?_⟩
  have e := h3 i hi
  rw [k3 i (by rw [e]; exact hi), e]
theorem Ea.size (h : Ea B a mk X Y) : X.heap.size ≤ Y.heap.size := h.1.size
theorem Ea.of (hB : B ≤ X.heap.size) (e : Ext X Y) : Ea B a mk X Y :=
  ⟨Below.mono e hB, fun g cur _ hc => ⟨cur, (Below.block e g (Array.getElem?_eq_some_iff.1 hc).1).trans hc, rfl, fun _ _ => rfl⟩⟩
theorem Ea.drw (X : World) : Ea B a mk X X.drew := ⟨Below.drew (Below.refl _ _), fun _ cur _ h => ⟨cur, h, rfl, fun _ _ => rfl⟩⟩
theorem Ea.grow : PE.Grow (Ea B a mk) := ⟨Ea.refl, Ea.trans, Ea.size, Ea.drw⟩
/-- a row of the call's own, in a world that grew so -/
theorem Ea.row (h : Ea B a mk X Y) {v : Value} {n : Nat} {xs : List Value} (hr : X.ownsRow B 24 3 v n xs) (hx : ∀ i, i < n * 3 → i < a * 3 ∨ (i < a * 3 + 3 ∧ xs[i]? = mk[i - a * 3]?)) : Y.ownsRow B 24 3 v n xs := by
  obtain ⟨hl, h2 | ⟨g, cap, cur, rfl, hg, hh, hnc, hcap, hsz, htake⟩⟩ := hr
  · exact ⟨hl, .inl h2⟩
  · obtain ⟨c1, h1, h2, h3⟩ := h.2 g cur hg hh
    refine ⟨hl, .inr ⟨g, cap, c1, rfl, hg, h1, hnc, hcap, h2.trans hsz, ?_⟩⟩
    rw [← htake]
    apply List.ext_getElem?
    intro i
    rw [List.getElem?_take, List.getElem?_take]
    by_cases hi : i < n * 3
    · rw [if_pos hi, if_pos hi]
      have e : xs[i]? = cur[i]? := by rw [← htake, List.getElem?_take, if_pos hi]; simp
      have := h3 i (by rw [← e]; exact hx i hi)
      simpa using this
    · rw [if_neg hi, if_neg hi]
end
theorem infoS24 : (Try.prog.info? 24).map (fun i => (i.zero, i.size, i.bytes)) = some (some (.agg #[.int .i64 0, .int .i64 0, .slice none 0 0]), 3, 40) := by kernel_rfl
/-- a row of the call's own grows by some stamps: its block stays where it was laid -/
theorem append_kept (w : World) (base ty : Nat) (v : Value) (n : Nat) (xs : List Value) (hown : w.ownsRow base 24 3 v n xs)
    (ad : Addr) (m c : Nat) (news : List Value) (hl : news.length = m * 3) (hnews : ∀ j u, news[j]? = some u → w.cell? (ad.add j) = some u) (h1 : ∀ u ∈ news, u.oneCell' = true) (hb : n + m ≤ 10000) (hbase : base ≤ w.heap.size) :
    ∃ v' w', (Builtin.append_ #[68, 68] ty #[v, .slice (some ad) m c]).run Try.prog w = .ok v' w' ∧ w'.ownsRow base 24 3 v' (n + m) (xs ++ news) ∧ w.grownBy w' v.ownBlock ∧
      (∀ g cur, v.ownBlock = some g → w.heap[g]? = some (.cells cur 24 (0, 0)) → ∃ cur' : Array Value, w'.heap[g]? = some (.cells cur' 24 (0, 0)) ∧ cur'.size = cur.size ∧ ∀ i, (i < n * 3 ∨ cur[i]? = news[i - n * 3]?) → cur'[i]? = cur[i]?) ∧
      (v' = .slice none 0 0 → v = .slice none 0 0) := by
  obtain ⟨i0, hi, hz0, hz1, hz2⟩ := info_parts infoS24
  obtain ⟨v', w', hr, ho, hg, hiff⟩ := run_append_own (P := Try.prog) w base 68 ty 24 i0 _ 3 40 Try.underlying68 hi hz0 hz1 hz2 rfl (by decide) v n xs hown ad m c news hl hnews h1 (by unfold maxLen; omega) (by omega) hbase
  refine ⟨v', w', hr, ho, hg, fun g cur hvg hcur => ?_, fun e => (hiff.1 e).1⟩
  obtain ⟨hxl, ⟨rfl, -⟩ | ⟨g', cap, cur', rfl, hbg, hgg, hnc, hcm, hcs, htake⟩⟩ := hown
  · cases hvg
  · injection hvg with hvg
    subst hvg
    rw [hcur] at hgg
    injection hgg with hgg
    injection hgg with hgg
    subst hgg
    by_cases hroom : n + m ≤ cap
    · have hfit : n * i0.size + news.length ≤ cur.size := by rw [hz1, hl, hcs]; omega
      have hq := run_append_room (P := Try.prog) w 68 ty 24 i0 Try.underlying68 hi g' n cap cur hcur ad m c news (by rw [hz1]; exact hl) hnews h1 hroom hfit
      rw [hr] at hq
      injection hq with _ hw
      subst hw
      refine ⟨_, setRow_heap w g' cur _ 24 _ hcur, ?_, fun i hi2 => ?_⟩
      · rw [hz1] at hfit ⊢
        simp
        omega
      · rw [hz1] at hfit ⊢
        simp only [List.getElem?_toArray, List.append_assoc]
        rw [List.getElem?_append]
        have htl : (cur.toList.take (n * 3)).length = n * 3 := by simp; omega
        rw [htl]
        by_cases h3 : i < n * 3
        · rw [if_pos h3, List.getElem?_take, if_pos h3]; simp
        · rw [if_neg h3, List.getElem?_append]
          by_cases h4 : i - n * 3 < news.length
          · rw [if_pos h4]
            rcases hi2 with h5 | h5
            · exact absurd h5 h3
            · exact h5.symm
          · rw [if_neg h4, List.getElem?_drop, show n * 3 + news.length + (i - n * 3 - news.length) = i by omega]; simp
    · have holds : ∀ j u, xs[j]? = some u → w.cell? ((⟨g', 0, none⟩ : Addr).add j) = some u := World.ownsRow.cells (g := g') (⟨hxl, .inr ⟨g', cap, cur, rfl, hbg, hcur, hnc, hcm, hcs, htake⟩⟩ : w.ownsRow base 24 3 _ n xs) rfl
      have hq := run_append_grow (P := Try.prog) w 68 ty 24 i0 _ Try.underlying68 hi hz0 ⟨g', 0, none⟩ n cap xs (by rw [hz1]; exact hxl) holds ad m c news (by rw [hz1]; exact hl) hnews (by omega) (by omega) (growslice_fits (by omega) (by rw [hz2]; omega))
      rw [hr] at hq
      injection hq with _ hw
      subst hw
      exact ⟨cur, (Below.block (al (Ext.drw (Ext.refl w)) _) g' (Array.getElem?_eq_some_iff.1 hcur).1).trans hcur, rfl, fun _ _ => rfl⟩
/-- a block of stamps in a world after an append -/
def Kept (w w' : World) (v : Value) (n : Nat) (news : List Value) : Prop :=
  ∀ g cur, v.ownBlock = some g → w.heap[g]? = some (.cells cur 24 (0, 0)) → ∃ cur' : Array Value, w'.heap[g]? = some (.cells cur' 24 (0, 0)) ∧ cur'.size = cur.size ∧ ∀ i, (i < n * 3 ∨ cur[i]? = news[i - n * 3]?) → cur'[i]? = cur[i]?
theorem append_any (w : World) (base ty : Nat) (v : Value) (n : Nat) (xs : List Value) (hown : w.ownsRow base 24 3 v n xs)
    (S : Option Addr) (m c : Nat) (news : List Value) (hl : news.length = m * 3) (hnews : ∀ ad, S = some ad → ∀ j u, news[j]? = some u → w.cell? (ad.add j) = some u) (hS : S = none → m = 0) (h1 : ∀ u ∈ news, u.oneCell' = true) (hb : n + m ≤ 10000) (hbase : base ≤ w.heap.size) :
    ∃ A' c' w', (Builtin.append_ #[68, 68] ty #[v, .slice S m c]).run Try.prog w = .ok (.slice A' (n + m) c') w' ∧ w'.ownsRow base 24 3 (.slice A' (n + m) c') (n + m) (xs ++ news) ∧ w.grownBy w' v.ownBlock ∧ Kept w w' v n news ∧ (A' = none → v = .slice none 0 0) := by
  cases S with
  | none =>
    obtain rfl := hS rfl
    obtain rfl : news = [] := List.eq_nil_of_length_eq_zero (by simpa using hl)
    obtain ⟨i0, hi, hz0, hz1, hz2⟩ := info_parts infoS24
    have h0 := hown
    obtain ⟨hxl, ⟨rfl, rfl⟩ | ⟨g', cap, cur', rfl, hbg, hgg, hnc, hcm, hcs, htake⟩⟩ := hown
    · refine ⟨none, 0, w, ?_, by simpa using h0, ⟨rfl, rfl, rfl, Nat.le_refl _, fun _ _ _ => rfl⟩, (fun g cur h _ => by cases h), fun _ => rfl⟩
      simp [Builtin.append_, run_underlying Try.underlying68, sizeOf, typeInfo, hi, Builtin.lenOf, Builtin.firstCells, loadCells, loadCellsFrom]
    · refine ⟨some ⟨g', 0, none⟩, cap, w, ?_, by simpa using h0, ⟨rfl, rfl, rfl, Nat.le_refl _, fun _ _ _ => rfl⟩, fun g cur _ h => ⟨cur, h, rfl, fun _ _ => rfl⟩, fun h => by cases h⟩
      simp [Builtin.append_, run_underlying Try.underlying68, sizeOf, typeInfo, hi, Builtin.lenOf, Builtin.firstCells, loadCells, loadCellsFrom, storeCells, hnc]
  | some ad =>
    obtain ⟨v', w', hr, ho, hg, hk, hn⟩ := append_kept w base ty v n xs hown ad m c news hl (hnews ad rfl) h1 hb hbase
    obtain ⟨A', c', rfl⟩ : ∃ A' c', v' = .slice A' (n + m) c' := by
      obtain ⟨-, ⟨rfl, h0⟩ | ⟨g, cap, cur, rfl, -⟩⟩ := ho
      · rw [h0]; exact ⟨_, _, rfl⟩
      · exact ⟨_, _, rfl⟩
    exact ⟨A', c', w', hr, ho, hg, hk, fun e => hn (by
      subst e
      obtain ⟨-, ⟨e, -⟩ | ⟨g, cap, cur, e, -⟩⟩ := ho
      · exact e
      · cases e)⟩
theorem wp_append_st {o : Oper} {a : Act} {w : World} {K : Act → World → Prop} {Q : Exit → Act → World → Prop} (s x : Operand) (ho : o.op = .call { callee := .builtin .append, args := #[s, x], argTypes := #[68, 68] })
    (base : Nat) (v : Value) (n : Nat) (xs : List Value) (hs : a.eval s = v) (hown : w.ownsRow base 24 3 v n xs)
    (S : Option Addr) (m c : Nat) (news : List Value) (hx : a.eval x = .slice S m c) (hl : news.length = m * 3) (hnews : ∀ ad, S = some ad → ∀ j u, news[j]? = some u → w.cell? (ad.add j) = some u) (hS : S = none → m = 0) (h1 : ∀ u ∈ news, u.oneCell' = true) (hb : n + m ≤ 10000) (hbase : base ≤ w.heap.size)
    (h : ∀ A' c' w', w'.ownsRow base 24 3 (.slice A' (n + m) c') (n + m) (xs ++ news) → w.grownBy w' v.ownBlock → Kept w w' v n news → (A' = none → v = .slice none 0 0) → K (a.put o.dst (.slice A' (n + m) c')) w') : o.wp Try.prog a w K Q := by
  obtain ⟨A', c', w', hr, h2, h3, h4, h5⟩ := append_any w base o.type v n xs hown S m c news hl hnews hS h1 hb hbase
  unfold Oper.wp execOp
  simp only [ho, resolve, invoke, builtin, Sem.run_bind, Sem.run_pure, Result.andThen_ok, List.map_toArray, List.map_cons, List.map_nil, hs, hx, hr]
  exact h A' c' w' h2 h3 h4 h5
/-- an append to a row of a stamps, or to an empty one, keeps what Ea keeps -/
theorem Ea.app {B a n : Nat} {mk news : List Value} {X Y : World} {v : Value} {xs : List Value} (hB : B ≤ X.heap.size) (hown : X.ownsRow B 24 3 v n xs) (hg : X.grownBy Y v.ownBlock) (hk : Kept X Y v n news)
    (h : (n = a ∧ news = mk) ∨ ∀ g cap, v = .slice (some ⟨g, 0, none⟩) n cap → cap = 0) : Ea B a mk X Y := by
  refine ⟨Below.grown (Below.refl _ _) hg hB (fun k hk => (hown.lt k hk).1), fun g cur hgB hc => ?_⟩
  by_cases hv : v.ownBlock = some g
  · obtain ⟨cur', h1, h2, h3⟩ := hk g cur hv hc
    refine ⟨cur', h1, h2, fun i hi => ?_⟩
    rcases h with ⟨rfl, rfl⟩ | h
    · exact h3 i (hi.imp id And.right)
    · obtain ⟨-, ⟨rfl, -⟩ | ⟨g', cap, cu, rfl, -, hh, -, -, hsz, -⟩⟩ := hown
      · cases hv
      · injection hv with hv
        subst hv
        rw [hc] at hh
        injection hh with hh
        injection hh with hh
        subst hh
        rw [h _ _ rfl] at hsz
        rw [Array.getElem?_eq_none (by omega), Array.getElem?_eq_none (by omega)]
  · refine ⟨cur, ?_, rfl, fun _ _ => rfl⟩
    rw [hg.block g (Array.getElem?_eq_some_iff.1 hc).1 (fun e => hv e.symm)]
    exact hc
end Go.Proofs.Ytgjanbgehbpciaa
