/- Walks: CompactFunc of stamps. -/
import Derived.Test.YtgjanbgehbpciaaF2
import Derived.Test.YtgjanbgehbpciaaPool
import Derived.Laws.IdiomCopy
namespace Go.Proofs.Ytgjanbgehbpciaa
open Go.RowKit

/-- the first of each run of equal stamps, among the first p -/
def kpB (ds : List Sd) (j : Nat) : Bool := decide (j = 0) || decide ((ds.getD j default).l ≠ (ds.getD (j - 1) default).l)
def kp (ds : List Sd) (p : Nat) : List Sd := ((List.range p).filter (kpB ds)).map (fun j => ds.getD j default)
section
variable {ds rs : List Sd} {p q k : Nat} {x y : Sd}
theorem kp_len (ds : List Sd) (p : Nat) : (kp ds p).length ≤ p := by
  unfold kp
  have := List.length_filter_le (kpB ds) (List.range p)
  simpa using this
theorem kp_yes (hb : kpB ds p = true) : kp ds (p + 1) = kp ds p ++ [ds.getD p default] := by
  unfold kp
  have : List.filter (kpB ds) [p] = [p] := by rw [List.filter_cons, if_pos hb]; rfl
  rw [List.range_succ, List.filter_append, List.map_append, this]; rfl
theorem kp_no (hb : kpB ds p = false) : kp ds (p + 1) = kp ds p := by
  unfold kp
  have : List.filter (kpB ds) [p] = [] := by rw [List.filter_cons, if_neg (by rw [hb]; decide)]; rfl
  rw [List.range_succ, List.filter_append, List.map_append, this, List.map_nil, List.append_nil]
theorem kpB_t (h1 : ds[q + 1]? = some x) (h0 : ds[q]? = some y) (hne : ¬ x.l = y.l) : kpB ds (q + 1) = true := by
  unfold kpB
  rw [List.getD_eq_getElem?_getD, List.getD_eq_getElem?_getD, Nat.add_sub_cancel, h1, h0]
  simp [hne]
theorem kpB_f (h1 : ds[q + 1]? = some x) (h0 : ds[q]? = some y) (he : x.l = y.l) : kpB ds (q + 1) = false := by
  unfold kpB
  rw [List.getD_eq_getElem?_getD, List.getD_eq_getElem?_getD, Nat.add_sub_cancel, h1, h0]
  simp [he]
theorem kp_mem (hx : x ∈ kp ds p) (hp : p ≤ ds.length) : x ∈ ds := by
  unfold kp at hx
  rw [List.mem_map] at hx
  obtain ⟨j, hj, rfl⟩ := hx
  have hjp : j < p := List.mem_range.1 (List.mem_filter.1 hj).1
  rw [List.getD_eq_getElem?_getD, List.getElem?_eq_getElem (by omega)]
  exact List.getElem_mem _
end

/-- the row in block gf holds these stamps, and may be written -/
def Rw (W : World) (w h N gf : Nat) (rs : List Sd) : Prop :=
  gf < W.heap.size ∧ (∀ i x, rs[i]? = some x → W.cell? ⟨gf, i * 3, none⟩ = some (.int .i64 w) ∧ W.cell? ⟨gf, i * 3 + 1, none⟩ = some (.int .i64 h) ∧ W.cell? ⟨gf, i * 3 + 2, none⟩ = some (.slice (some ⟨x.b, 0, none⟩) N N)) ∧ ∀ o, o < rs.length * 3 → W.frozen? ⟨gf, o, none⟩ = false
/-- all blocks but gf stay as they are -/
def Gx (gf : Nat) (X Y : World) : Prop := X.grownBy Y (some gf)
section
variable {W X Y Z : World} {w h N gf b k : Nat} {rs : List Sd} {x : Sd} {l : List Int}
theorem Rw.ext (hr : Rw X w h N gf rs) (e : Ext X Y) : Rw Y w h N gf rs :=
  ⟨Nat.lt_of_lt_of_le hr.1 e.size, fun i x hi => by obtain ⟨a, b, c⟩ := hr.2.1 i x hi; exact ⟨keepAt e hr.1 a, keepAt e hr.1 b, keepAt e hr.1 c⟩, fun o ho => (Below.frozen e (p := ⟨gf, o, none⟩) hr.1).trans (hr.2.2 o ho)⟩
theorem Gx.refl (gf : Nat) (X : World) : Gx gf X X := ⟨rfl, rfl, rfl, Nat.le_refl _, fun _ _ _ => rfl⟩
theorem Gx.trans (a : Gx gf X Y) (c : Gx gf Y Z) : Gx gf X Z :=
  ⟨c.os.trans a.os, c.tape.trans a.tape, c.output.trans a.output, Nat.le_trans a.size c.size, fun k hk hne => (c.block k (Nat.lt_of_lt_of_le hk a.size) hne).trans (a.block k hk hne)⟩
theorem Gx.of (e : Ext X Y) : Gx gf X Y := ⟨e.os, e.tape, e.output, e.size, fun k hk _ => e.block k hk⟩
theorem Gx.sc (i : Nat) (v : Value) : Gx gf X (X.setCell ⟨gf, i, none⟩ v) :=
  ⟨rfl, rfl, rfl, by simp [World.setCell], fun k _ hne => by
    have : ¬ gf = k := fun e => hne (by rw [e])
    simp [World.setCell, Array.getElem?_modify, this]⟩
theorem Gx.scs : ∀ (vs : List Value) (i : Nat) (X : World), Gx gf X (X.setCells gf i vs)
  | [], _, X => Gx.refl gf X
  | v :: r, i, X => (Gx.sc i v).trans (Gx.scs r (i + 1) _)
theorem Gx.ext_ (a : Gx gf X Y) {B : Nat} (hB : B ≤ gf) (hX : Below B W X) (hBX : B ≤ X.heap.size) : Below B W Y := hX.grown a hBX (fun k e => by cases e; exact hB)
theorem Ar3.gx (hr : Ar3 X b l) (a : Gx gf X Y) (hne : b ≠ gf) : Ar3 Y b l := hr.grown a (fun e => hne (by injection e))
/-- a store of a stamp -/
theorem Rw.put (hr : Rw X w h N gf rs) (x : Sd) (hk : k < rs.length) :
    Rw (((X.setCell ⟨gf, k * 3, none⟩ (.int .i64 w)).setCell ⟨gf, k * 3 + 1, none⟩ (.int .i64 h)).setCell ⟨gf, k * 3 + 2, none⟩ (.slice (some ⟨x.b, 0, none⟩) N N)) w h N gf (rs.set k x) := by
  obtain ⟨h1, h2, h3⟩ := hr
  have ne : ∀ {W : World} {i j : Nat} {v : Value}, i ≠ j → (W.setCell ⟨gf, j, none⟩ v).cell? ⟨gf, i, none⟩ = W.cell? ⟨gf, i, none⟩ := fun {W i j v} hij => World.cell?_setCell_other _ _ _ _ (by intro e; injection e with e1 e2; exact hij e2.symm)
  refine ⟨by simpa [World.setCell] using h1, fun i y hi => ?_, fun o ho => ?_⟩
  · by_cases hik : i = k
    · subst hik
      rw [List.getElem?_set_self hk] at hi
      injection hi with hi; subst hi
      obtain ⟨a, b, c⟩ := h2 i _ (List.getElem?_eq_getElem hk)
      refine ⟨?_, ?_, ?_⟩
      · rw [ne (by omega), ne (by omega)]; exact World.cell?_setCell_same' _ _ _ (by rw [a]; rfl)
      · rw [ne (by omega)]; exact World.cell?_setCell_same' _ _ _ (by rw [ne (by omega), b]; rfl)
      · exact World.cell?_setCell_same' _ _ _ (by rw [ne (by omega), ne (by omega), c]; rfl)
    · rw [List.getElem?_set_ne (fun e => hik e.symm)] at hi
      obtain ⟨a, b, c⟩ := h2 i y hi
      refine ⟨?_, ?_, ?_⟩ <;> (rw [ne (by omega), ne (by omega), ne (by omega)]; assumption)
  · rw [World.frozen?_setCell, World.frozen?_setCell, World.frozen?_setCell]
    rw [List.length_set] at ho
    exact h3 o ho
/-- what lies behind is cleared -/
theorem Rw.cut (hr : Rw X w h N gf rs) (k : Nat) (vs : List Value) : Rw (X.setCells gf (k * 3) vs) w h N gf (rs.take k) := by
  obtain ⟨h1, h2, h3⟩ := hr
  have hf : ∀ (vs : List Value) (o i : Nat) (W : World), (W.setCells gf o vs).frozen? ⟨gf, i, none⟩ = W.frozen? ⟨gf, i, none⟩ := fun vs => by
    induction vs with
    | nil => intro o i W; rfl
    | cons v r ih => intro o i W; rw [World.setCells, ih, World.frozen?_setCell]
  refine ⟨Nat.lt_of_lt_of_le h1 (Gx.scs vs _ X).size, fun i y hi => ?_, fun o ho => ?_⟩
  · have hik : i < k := by have := (List.getElem?_eq_some_iff.1 hi).1; rw [List.length_take] at this; omega
    rw [List.getElem?_take, if_pos hik] at hi
    obtain ⟨a, b, c⟩ := h2 i y hi
    refine ⟨?_, ?_, ?_⟩
    · rw [World.cell?_setCells_out _ _ _ _ _ (fun _ _ => .inl (show i * 3 < k * 3 by omega))]; exact a
    · rw [World.cell?_setCells_out _ _ _ _ _ (fun _ _ => .inl (show i * 3 + 1 < k * 3 by omega))]; exact b
    · rw [World.cell?_setCells_out _ _ _ _ _ (fun _ _ => .inl (show i * 3 + 2 < k * 3 by omega))]; exact c
  · rw [hf]
    refine h3 o ?_
    rw [List.length_take] at ho
    omega
end
end Go.Proofs.Ytgjanbgehbpciaa
