/- append of one number onto a slice of the call's own, wherever in its block it begins: one way. -/
import Derived.Test.YtilcbbdmenknfaaA0
namespace Go.Proofs.Ytilcbbdmenknfaa
open Go.RowKit

/-- the slice v of n numbers x 0 .. lies in a block of its own, from base on, and what is behind it is free -/
def Qs (w : World) (base : Nat) (v : Value) (n : Nat) (x : Nat → Int) : Prop :=
  (∀ b, v.ownBlock = some b → base ≤ b ∧ b < w.heap.size) ∧ ∃ A c, v = .slice A n c ∧ n ≤ c ∧ c ≤ maxLen ∧ (c = 0 ∨ ∃ g off cur, A = some ⟨g, off, none⟩ ∧ base ≤ g ∧ w.heap[g]? = some (.cells cur 3 (0, 0)) ∧ off + c ≤ cur.size ∧ ∀ j, j < n → cur[off + j]? = some (.int .i64 (x j)))
section
variable {w w' : World} {base : Nat} {v : Value} {n : Nat} {x : Nat → Int}
theorem Qs.nil (w : World) (base : Nat) (x : Nat → Int) : Qs w base (.slice none 0 0) 0 x := ⟨fun _ h => by simp [Value.ownBlock] at h, none, 0, rfl, Nat.le_refl _, Nat.zero_le _, .inl rfl⟩
theorem Qs.il (h : Qs w base v n x) : Il w v n x := by
  obtain ⟨-, A, c, rfl, h1, h2, h3⟩ := h
  refine ⟨A, c, rfl, h1, by simp only [maxLen] at h2; omega, fun hp => ?_⟩
  rcases h3 with h0 | ⟨g, off, cur, rfl, hb, hg, hs, hc⟩
  · omega
  · exact ⟨g, off, rfl, (Array.getElem?_eq_some_iff.1 hg).1, fun j hj => (cell_of_row w g (off + j) cur 3 (0, 0) hg).trans (hc j hj)⟩
theorem Qs.congr {z : Nat → Int} (h : Qs w base v n x) (e : ∀ j, j < n → x j = z j) : Qs w base v n z := by
  obtain ⟨h0, A, c, rfl, h1, h2, h3⟩ := h
  exact ⟨h0, A, c, rfl, h1, h2, h3.imp id fun ⟨g, off, cur, hA, hb, hg, hs, hc⟩ => ⟨g, off, cur, hA, hb, hg, hs, fun j hj => by rw [← e j hj]; exact hc j hj⟩⟩
theorem Qs.block (h : Qs w base v n x) (hs : w.heap.size ≤ w'.heap.size) (hk : ∀ g, v.ownBlock = some g → w'.heap[g]? = w.heap[g]?) : Qs w' base v n x := by
  obtain ⟨h0, A, c, rfl, h1, h2, h3⟩ := h
  exact ⟨fun b hb => ⟨(h0 b hb).1, Nat.lt_of_lt_of_le (h0 b hb).2 hs⟩, A, c, rfl, h1, h2, h3.imp id fun ⟨g, off, cur, hA, hb, hg, hs, hc⟩ => ⟨g, off, cur, hA, hb, (hk g (by subst hA; rfl)).trans hg, hs, hc⟩⟩
theorem Qs.ext (h : Qs w base v n x) (e : Ext w w') : Qs w' base v n x := by
  obtain ⟨h0, A, c, rfl, h1, h2, h3⟩ := h
  exact ⟨fun b hb => ⟨(h0 b hb).1, Nat.lt_of_lt_of_le (h0 b hb).2 e.size⟩, A, c, rfl, h1, h2, h3.imp id fun ⟨g, off, cur, hA, hb, hg, hs, hc⟩ => ⟨g, off, cur, hA, hb, (Below.block e g (Array.getElem?_eq_some_iff.1 hg).1).trans hg, hs, hc⟩⟩
/-- behind its first -/
theorem Qs.tail {A : Option Addr} {c : Nat} (h : Qs w base (.slice A (n + 1) c) (n + 1) x) (B : Option Addr) (hb0 : ∀ b, (Value.slice B n (c - 1)).ownBlock = some b → base ≤ b ∧ b < w.heap.size) (hB : ∀ g off, A = some ⟨g, off, none⟩ → 0 < c - 1 → B = some ⟨g, off + 1, none⟩) :
    Qs w base (.slice B n (c - 1)) n (fun j => x (j + 1)) := by
  obtain ⟨-, A', c', e, h1, h2, h3⟩ := h
  injection e with e1 _ e3
  subst e1 e3
  refine ⟨hb0, B, c - 1, rfl, by omega, by omega, ?_⟩
  rcases h3 with h0 | ⟨g, off, cur, rfl, hb, hg, hs, hc⟩
  · left; omega
  · rcases Nat.eq_zero_or_pos (c - 1) with hz | hp
    · left; exact hz
    · right
      exact ⟨g, off + 1, cur, hB g off rfl hp, hb, hg, by omega, fun j hj => by rw [show off + 1 + j = off + (j + 1) by omega]; exact hc (j + 1) (by omega)⟩
/-- a block of one number -/
theorem Qs.one (w : World) (base : Nat) (z : Int) (hb : base ≤ w.heap.size) (x : Nat → Int) (hx : x 0 = z) : Qs (w.alloc (.cells #[.int .i64 z] 3)) base (.slice (some ⟨w.heap.size, 0, none⟩) 1 1) 1 x :=
  ⟨fun b h => by simp [Value.ownBlock] at h; simp; omega, _, 1, rfl, Nat.le_refl _, by simp only [maxLen]; omega, .inr ⟨w.heap.size, 0, _, rfl, hb, heap_alloc_new w _, by simp, fun j hj => by
    obtain rfl : j = 0 := by omega
    simp [hx]⟩⟩
end

/-- what an append leaves: the slice's own block may be written, the new value has it or a new one -/
structure Grew (w w' : World) (v v' : Value) : Prop where
  by_ : w.grownBy w' v.ownBlock
  own : v'.ownBlock = v.ownBlock ∨ ∃ g, v'.ownBlock = some g ∧ w.heap.size ≤ g

section
variable {w w' : World} {v v' : Value}
theorem Grew.ext {X : World} (h : Grew w w' v v') (e : Ext X w) (ho : ∀ b, v.ownBlock = some b → X.heap.size ≤ b) : Ext X w' :=
  ⟨h.by_.os.trans e.os, h.by_.tape.trans e.tape, h.by_.output.trans e.output, Nat.le_trans e.size h.by_.size, fun k hk => (h.by_.block k (Nat.lt_of_lt_of_le hk e.size) (fun c => by have := ho k c.symm; omega)).trans (e.block k hk)⟩
theorem Grew.bk {b n : Nat} {t : TypeId} {f : Nat → Value} (h : Grew w w' v v') (hb : Bk w b t n f) (ho : v.ownBlock ≠ some b) : Bk w' b t n f := (h.by_.block b hb.lt (fun c => ho c.symm)).trans hb
theorem Grew.bi {b n : Nat} {f : Nat → Int} (h : Grew w w' v v') (hb : BI w b n f) (ho : v.ownBlock ≠ some b) : BI w' b n f := h.bk hb ho
theorem Grew.bb {b n : Nat} {f : Nat → Bool} (h : Grew w w' v v') (hb : BB w b n f) (ho : v.ownBlock ≠ some b) : BB w' b n f := h.bk hb ho
theorem Grew.apart {b : Nat} (h : Grew w w' v v') (hb : b < w.heap.size) (ho : v.ownBlock ≠ some b) : v'.ownBlock ≠ some b := by
  rcases h.own with e | ⟨g, e, hg⟩
  · rw [e]; exact ho
  · rw [e]; intro c; injection c with c; omega
end

theorem run_append_q {P : Program} (w : World) (t ty : TypeId) (i : TypeInfo) (ht : P.underlying t = some (.slice 3)) (hi : P.info? 3 = some i) (hz : i.zero = some (.int .i64 0)) (hsize : i.size = 1) (hby : i.bytes = 8)
    (base : Nat) (v : Value) (n : Nat) (x : Nat → Int) (h : Qs w base v n x) (hbase : base ≤ w.heap.size) (a : Addr) (c : Nat) (z : Int) (ha : w.cell? a = some (.int .i64 z)) (hn : n ≤ 1000000) :
    ∃ v' w', (Builtin.append_ #[t, t] ty #[v, .slice (some a) 1 c]).run P w = .ok v' w' ∧ Qs w' base v' (n + 1) (up x n z) ∧ Grew w w' v v' := by
  have hnews : ∀ j u, [Value.int .i64 z][j]? = some u → w.cell? (a.add j) = some u := by
    intro j u hj
    cases j with
    | zero =>
      simp at hj; subst hj
      have : a.add 0 = a := by cases a; unfold Addr.add; split <;> simp_all
      rw [this]; exact ha
    | succ j => simp at hj
  have h1c : ∀ u ∈ [Value.int .i64 z], u.oneCell' = true := by intro u hu; simp at hu; subst hu; rfl
  obtain ⟨hown, A, cap, rfl, hnc, hcm, h3⟩ := h
  have fresh : ∀ v' w', w'.ownsRow w.heap.size 3 1 v' (n + 1) (((List.range n).map fun j => Value.int .i64 (x j)) ++ [.int .i64 z]) → Qs w' base v' (n + 1) (up x n z) ∧ ∃ g, v'.ownBlock = some g ∧ w.heap.size ≤ g := by
    intro v' w' ho
    obtain ⟨hl, h | ⟨g, cap', cur, rfl, hg, hh, h1, h2, h4, h5⟩⟩ := ho
    · omega
    · refine ⟨⟨fun b hb => by simp [Value.ownBlock] at hb; subst hb; exact ⟨by omega, (Array.getElem?_eq_some_iff.1 hh).1⟩, _, cap', rfl, h1, h2, .inr ⟨g, 0, cur, rfl, by omega, hh, by omega, fun j hj => ?_⟩⟩, g, rfl, hg⟩
      have h6 : (cur.toList.take ((n + 1) * 1))[j]? = cur[0 + j]? := by
        rw [List.getElem?_take, if_pos (by omega)]
        simp
      rw [← h6, h5]
      by_cases e : j < n
      · rw [List.getElem?_append_left (by simp; omega), up_ne _ _ (by omega)]
        simp [e]
      · obtain rfl : j = n := by omega
        rw [List.getElem?_append_right (by simp), up_self]
        simp
  have holds : ∀ b, A = some b → ∀ j u, ((List.range n).map fun j => Value.int .i64 (x j))[j]? = some u → w.cell? (b.add j) = some u := by
    intro b hb j u hj
    have hjn : j < n := by
      rcases Nat.lt_or_ge j n with h | h
      · exact h
      · rw [List.getElem?_eq_none (by simp; omega)] at hj; cases hj
    rcases h3 with h0 | ⟨g, off, cur, hA, hbb, hg, hs, hc⟩
    · omega
    · rw [hA] at hb; injection hb with hb; subst hb
      have : (⟨g, off, none⟩ : Addr).add j = ⟨g, off + j, none⟩ := by unfold Addr.add; split <;> simp_all
      rw [this, cell_of_row w g (off + j) cur 3 (0, 0) hg, hc j hjn]
      simp [hjn] at hj
      rw [← hj]
  by_cases hr : n + 1 ≤ cap
  · rcases h3 with h0 | ⟨g, off, cur, rfl, hbb, hg, hs, hc⟩
    · omega
    have hcell : ∀ j, j < [Value.int .i64 z].length → (w.cell? ⟨g, off + n * i.size + j, none⟩).isSome = true := by
      intro j hj
      simp at hj
      subst hj
      rw [hsize, Nat.mul_one, Nat.add_zero, cell_of_row w g (off + n) cur 3 (0, 0) hg]
      simp; omega
    have hfree : ∀ j, j < [Value.int .i64 z].length → w.frozen? ⟨g, off + n * i.size + j, none⟩ = false := fun j _ => by simp [World.frozen?, hg]
    have hrun := run_append_room_cells (P := P) w t ty 3 i ht hi g off n cap a 1 c [.int .i64 z] (by rw [hsize]; rfl) hnews h1c hr hcell hfree
    rw [hsize, Nat.mul_one] at hrun
    have hw : w.setCells g (off + n) [.int .i64 z] = w.setCell ⟨g, off + n, none⟩ (.int .i64 z) := rfl
    rw [hw] at hrun
    have hnew : (w.setCell ⟨g, off + n, none⟩ (.int .i64 z)).heap[g]? = some (.cells (cur.setIfInBounds (off + n) (.int .i64 z)) 3 (0, 0)) := by simp [World.setCell, Array.getElem?_modify, hg]
    refine ⟨_, _, hrun, ⟨fun b hb => ⟨(hown b hb).1, by have := (hown b hb).2; simpa [World.setCell] using this⟩, _, cap, rfl, hr, hcm, .inr ⟨g, off, _, rfl, hbb, hnew, by simpa using hs, fun j hj => ?_⟩⟩, ⟨⟨rfl, rfl, rfl, by simp [World.setCell], fun k hk hne => ?_⟩, .inl rfl⟩⟩
    · by_cases e : j = n
      · subst e
        rw [up_self, Array.getElem?_setIfInBounds, if_pos rfl, if_pos (by omega)]
      · rw [up_ne _ _ e, Array.getElem?_setIfInBounds, if_neg (by omega)]
        exact hc j (by omega)
    · exact Below.heap_setCell w ⟨g, off + n, none⟩ _ k (fun e => hne (by simp [Value.ownBlock, e]))
  · have hlen : ((List.range n).map fun j => Value.int .i64 (x j)).length = n * 1 := by simp
    cases hA : A with
    | some b =>
      obtain ⟨v', w', hrun, r1, r2⟩ := run_append_arg_grows (P := P) w t ty 3 i (Value.int .i64 0) 1 8 ht hi hz hsize hby rfl (by omega) b n cap _ hlen (holds b hA) a 1 c [Value.int .i64 z] rfl hnews (by omega) (by simp only [maxLen]; omega) (by omega)
      obtain ⟨q1, q2⟩ := fresh v' w' r1
      exact ⟨v', w', hrun, q1, ⟨⟨r2.os, r2.tape, r2.output, r2.size, fun k hk _ => r2.block k hk (by simp)⟩, .inr q2⟩⟩
    | none =>
      have hc0 : cap = 0 := by
        rcases h3 with h0 | ⟨g, off, cur, h, _⟩
        · exact h0
        · rw [hA] at h; cases h
      subst hc0
      obtain rfl : n = 0 := by omega
      obtain ⟨v', w', hrun, r1, r2, _⟩ := run_append_own (P := P) w w.heap.size t ty 3 i _ 1 8 ht hi hz hsize hby rfl (by omega) (.slice none 0 0) 0 [] (World.ownsRow_nil w _ 3 1) a 1 c [Value.int .i64 z] rfl hnews h1c (by simp only [maxLen]; omega) (by omega) (Nat.le_refl _)
      obtain ⟨q1, q2⟩ := fresh v' w' r1
      exact ⟨v', w', hrun, q1, ⟨⟨r2.os, r2.tape, r2.output, r2.size, fun k hk _ => r2.block k hk (by simp [Value.ownBlock])⟩, .inr q2⟩⟩

section
variable {P : Program} {w : World} {o : Oper} {a : Act} {K : Act → World → Prop} {Q : Exit → Act → World → Prop}
theorem wp_append_q (s x : Operand) (t : TypeId) (ho : o.op = .call { callee := .builtin .append, args := #[s, x], argTypes := #[t, t] })
    (i : TypeInfo) (ht : P.underlying t = some (.slice 3)) (hi : P.info? 3 = some i) (hz : i.zero = some (.int .i64 0)) (hsize : i.size = 1) (hby : i.bytes = 8)
    (base : Nat) (v : Value) (n : Nat) (f : Nat → Int) (hs : a.eval s = v) (h : Qs w base v n f) (hbase : base ≤ w.heap.size) (ad : Addr) (c : Nat) (z : Int) (hx : a.eval x = .slice (some ad) 1 c) (ha : w.cell? ad = some (.int .i64 z)) (hn : n ≤ 1000000)
    (hK : ∀ v' w', Qs w' base v' (n + 1) (up f n z) → Grew w w' v v' → K (a.put o.dst v') w') : o.wp P a w K Q := by
  obtain ⟨v', w', hr, h2, h3⟩ := run_append_q (P := P) w t o.type i ht hi hz hsize hby base v n f h hbase ad c z ha hn
  unfold Oper.wp execOp
  simp only [ho, resolve, invoke, builtin, Sem.run_bind, Sem.run_pure, Result.andThen_ok, List.map_toArray, List.map_cons, List.map_nil, hs, hx, hr]
  exact hK v' w' h2 h3
theorem wpList_append_q {ops : Array Oper} {rest : List Oper} (hgd : o.guard = none) (s x : Operand) (t : TypeId) (ho : o.op = .call { callee := .builtin .append, args := #[s, x], argTypes := #[t, t] })
    (i : TypeInfo) (ht : P.underlying t = some (.slice 3)) (hi : P.info? 3 = some i) (hz : i.zero = some (.int .i64 0)) (hsize : i.size = 1) (hby : i.bytes = 8)
    (base : Nat) (v : Value) (n : Nat) (f : Nat → Int) (hs : a.eval s = v) (h : Qs w base v n f) (hbase : base ≤ w.heap.size) (ad : Addr) (c : Nat) (z : Int) (hx : a.eval x = .slice (some ad) 1 c) (ha : w.cell? ad = some (.int .i64 z)) (hn : n ≤ 1000000)
    (hK : ∀ v' w', Qs w' base v' (n + 1) (up f n z) → Grew w w' v v' → wpList P ops Q rest (a.put o.dst v') w') : wpList P ops Q (o :: rest) a w :=
  wpList_plain hgd fun K hK' => wp_append_q s x t ho i ht hi hz hsize hby base v n f hs h hbase ad c z hx ha hn fun v' w' h1 h2 => hK' _ _ (hK v' w' h1 h2)
end
end Go.Proofs.Ytilcbbdmenknfaa
