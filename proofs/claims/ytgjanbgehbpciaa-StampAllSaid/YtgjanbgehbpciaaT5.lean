/- Walks: List. -/
import Derived.Test.YtgjanbgehbpciaaT3
import Derived.Test.YtgjanbgehbpciaaT4
namespace Go.Proofs.Ytgjanbgehbpciaa
open Go.RowKit

/-- block g holds these ints, and maybe more behind them; it is one of ints -/
def A3 (W : World) (g : Nat) (l : List Int) : Prop := ∃ cur, W.heap[g]? = some (.cells cur 3 (0, 0)) ∧ cur.toList.take l.length = l.map iv
section
variable {W X Y : World} {g : Nat} {l : List Int}
theorem A3.aw (h : A3 W g l) : Aw W g l := by obtain ⟨cur, h, h2⟩ := h; exact ⟨3, cur, h, h2⟩
theorem A3.lt (h : A3 W g l) : g < W.heap.size := h.aw.lt
theorem A3.grown {row : Option Nat} (h : A3 X g l) (hg : X.grownBy Y row) (hne : some g ≠ row) : A3 Y g l := by
  have hl := h.lt
  obtain ⟨cur, h, h2⟩ := h
  exact ⟨cur, (hg.block g hl hne).trans h, h2⟩
theorem A3.ext (h : A3 X g l) (e : Ext X Y) : A3 Y g l := by
  have hl := h.lt
  obtain ⟨cur, h, h2⟩ := h
  exact ⟨cur, (Below.block e g hl).trans h, h2⟩
theorem A3.not_row (h : A3 W g l) {base size n : Nat} {e : TypeId} (he : e ≠ 3) {v : Value} {xs : List Value} (hr : W.ownsRow base e size v n xs) : some g ≠ v.ownBlock := by
  rcases hr.2 with ⟨rfl, _⟩ | ⟨g', cap, cur, rfl, _, hgb, _⟩
  · simp [Value.ownBlock]
  · intro e'
    have : g = g' := by simpa [Value.ownBlock] using e'
    subst this
    obtain ⟨cur', h, -⟩ := h
    rw [hgb] at h
    injection h with h1
    injection h1 with h2 h3
    exact he h3
end
theorem goals_3 (w h : Nat) (m : Mv) (W : World) (hs : okSize w h = true) (hm : has w h m = true) :
    Calls Try.prog 70 #[.agg #[.int .i64 w, .int .i64 h], .agg #[.int .i64 m.dx, .int .i64 m.dy, .int .i64 m.t, .bool m.f]] W fun e W' =>
      ∃ g cap, e = .returned (.slice (some ⟨g, 0, none⟩) (w * h) cap) ∧ W.heap.size ≤ g ∧ A3 W' g (gl w h m (w * h)) ∧ Ext W W' := by
  have hs' := okSize_iff.1 hs
  have ha := area_in hs
  rw [has_iff] at hm
  obtain ⟨dx, dy, t, f⟩ := m
  simp only at hm
  obtain ⟨n, rfl⟩ : ∃ n : Nat, t = n := ⟨t.toNat, by omega⟩
  refine (goals_w w h dx dy n f W (by omega) (by omega) (by omega)).mono ?_
  rintro e W' ⟨r, rfl, ho, hx⟩
  have hl : (gl w h ⟨dx, dy, n, f⟩ (w * h)).length = w * h := gl_len _ _ _ _
  have hp : 0 < w * h := by have e : ((w * h : Nat) : Int) = (w : Int) * h := by simp
                            omega
  obtain ⟨h1, h2 | ⟨g', cap, cur, he, hg, hh, hn, hcap, hsz, htake⟩⟩ := ho
  · obtain ⟨he, h0⟩ := h2; omega
  · exact ⟨g', cap, by rw [he], hg, ⟨cur, hh, by rw [hl]; simpa using htake⟩, hx⟩

theorem info22 : (Try.prog.info? 22).map (fun i => (i.zero, i.size, i.bytes)) = some (some (.slice none 0 0), 1, 24) := by kernel_rfl
/-- the row of goals under way -/
def GW (W2 : World) (w h N : Nat) (g : List Mv) (k : Nat) (v : Value) (wr : World) : Prop :=
  ∃ vs : List Value, vs.length = k ∧ wr.ownsRow W2.heap.size 22 1 v k vs ∧ (∀ j m, j < k → g[j]? = some m → ∃ b c, vs[j]? = some (.slice (some ⟨b, 0, none⟩) N c) ∧ A3 wr b (gl w h m N)) ∧ Ext W2 wr
theorem GW.gr {W2 wr : World} {w h N k : Nat} {g : List Mv} {v : Value} (hs : okSize w h = true) (hk : k = g.length) (hk1 : 1 ≤ k) (hg : GW W2 w h N g k v wr) :
    ∃ gr cap, v = .slice (some ⟨gr, 0, none⟩) k cap ∧ GR wr wr.heap.size gr w h N g := by
  obtain ⟨vs, h1, h2, h3, h4⟩ := hg
  have h0 := h2
  obtain ⟨-, ⟨-, h5⟩ | ⟨gr, cap, cur, rfl, hg, hh, hnc, hcap, hsz, htake⟩⟩ := h2
  · omega
  · have add : ∀ i, (⟨gr, 0, none⟩ : Addr).add i = ⟨gr, i, none⟩ := fun i => by unfold Addr.add; split <;> simp_all
    refine ⟨gr, cap, rfl, (Array.getElem?_eq_some_iff.1 hh).1, fun j m hm => ?_⟩
    have hj : j < k := by rw [hk]; exact (List.getElem?_eq_some_iff.1 hm).1
    obtain ⟨b, c, a1, a2⟩ := h3 j m hj hm
    refine ⟨b, 0, c, by rw [← add]; exact h0.cells (g := gr) rfl j _ a1, a2.lt, fun t ht => ?_⟩
    rw [Nat.zero_add, a2.aw.cell (by rw [gl_len]; exact ht), gl_gsN hs ht]

/-- a stamp's cells in memory: where, which -/
structure Sl where
  b : Nat
  c : Nat
  l : List Int
def encL (w h N : Nat) (x : Sl) : List Value := [.int .i64 w, .int .i64 h, .slice (some ⟨x.b, 0, none⟩) N x.c]
theorem encL_len (w h N : Nat) (l : List Sl) : (l.flatMap (encL w h N)).length = l.length * 3 := by
  induction l with
  | nil => rfl
  | cons m l ih => rw [List.flatMap_cons, List.length_append, ih, List.length_cons]; simp [encL]; omega
theorem encL_at (w h N : Nat) : ∀ (l : List Sl) (j : Nat) (x : Sl), l[j]? = some x → (l.flatMap (encL w h N))[j * 3]? = some (.int .i64 w) ∧ (l.flatMap (encL w h N))[j * 3 + 1]? = some (.int .i64 h) ∧ (l.flatMap (encL w h N))[j * 3 + 2]? = some (.slice (some ⟨x.b, 0, none⟩) N x.c)
  | [], j, m, he => by simp at he
  | a :: l, 0, m, he => by
    simp at he; subst he
    simp [List.flatMap_cons, encL]
  | a :: l, j + 1, m, he => by
    have ih := encL_at w h N l j m (by simpa using he)
    have e : ∀ k, (List.flatMap (encL w h N) (a :: l))[(j + 1) * 3 + k]? = (List.flatMap (encL w h N) l)[j * 3 + k]? := fun k => by
      rw [List.flatMap_cons, List.getElem?_append_right (by simp [encL]; omega)]
      congr 1
      simp [encL]; omega
    refine ⟨?_, ?_, ?_⟩
    · have := e 0; simp only [Nat.add_zero] at this; rw [this]; exact ih.1
    · rw [e 1]; exact ih.2.1
    · rw [e 2]; exact ih.2.2
/-- the list under way: the first k of all stamps are looked through -/
def LO (W5 : World) (bc w h N c : Nat) (g : List Mv) (k : Nat) (v : Value) (wr : World) : Prop :=
  ∃ ds : List Sl, ds.map Sl.l = ((allC c N).take k).filter (isF w h N g) ∧ wr.ownsRow W5.heap.size 27 3 v ds.length (ds.flatMap (encL w h N)) ∧ (∀ x ∈ ds, A3 wr x.b x.l ∧ bc < x.b ∧ N ≤ x.c ∧ x.c ≤ 9223372036854775807) ∧ Gx bc W5 wr
theorem World.ownsRow.gx {X Y : World} {bc base : Nat} {e : TypeId} {size : Nat} {v : Value} {n : Nat} {xs : List Value} (h : X.ownsRow base e size v n xs) (hx : Gx bc X Y) (hb : bc < base) : Y.ownsRow base e size v n xs := by
  obtain ⟨h1, h2 | ⟨g, cap, cur, rfl, hg, hh, rest⟩⟩ := h
  · exact ⟨h1, .inl h2⟩
  · have hl : g < X.heap.size := (Array.getElem?_eq_some_iff.1 hh).1
    exact ⟨h1, .inr ⟨g, cap, cur, rfl, hg, (hx.block g hl (fun e => by injection e; omega)).trans hh, rest⟩⟩
section
variable {W5 X Y : World} {bc w h N c k : Nat} {g : List Mv} {v : Value} {cs : List Int}
theorem LO.gx (hl : LO W5 bc w h N c g k v X) (a : Gx bc X Y) (hb : bc < W5.heap.size) : LO W5 bc w h N c g k v Y := by
  obtain ⟨ds, h1, h2, h3, h4⟩ := hl
  exact ⟨ds, h1, World.ownsRow.gx h2 a hb, fun x hx => ⟨(h3 x hx).1.grown a (fun e => by injection e; have := (h3 x hx).2.1; omega), (h3 x hx).2⟩, h4.trans a⟩
theorem take_snoc' {α : Type} {l : List α} {k : Nat} {x : α} (h : l[k]? = some x) : l.take (k + 1) = l.take k ++ [x] := by rw [List.take_add_one, h]; rfl
theorem LO.skip (hl : LO W5 bc w h N c g k v X) (hc : (allC c N)[k]? = some cs) (hf : isF w h N g cs = false) : LO W5 bc w h N c g (k + 1) v X := by
  obtain ⟨ds, h1, h2⟩ := hl
  refine ⟨ds, ?_, h2⟩
  rw [h1, take_snoc' hc, List.filter_append]
  simp [hf]
theorem LO.len {ds : List Sl} (h : ds.map Sl.l = ((allC c N).take k).filter (isF w h N g)) : ds.length ≤ c ^ N := by
  rw [← List.length_map (f := Sl.l), h]
  refine Nat.le_trans (List.length_filter_le _ _) ?_
  rw [List.length_take, allC_len]; omega
end
/-- at the head of the loop -/
def LR (W5 : World) (bc w h N c : Nat) (g : List Mv) (gk : Nat) (v mo : Value) (wr : World) : Prop :=
  mo = .bool (decide (0 < gk)) ∧ ∃ k, k + gk = c ^ N ∧ (0 < gk → ∃ cs, (allC c N)[k]? = some cs ∧ Ar3 wr bc cs) ∧ LO W5 bc w h N c g k v wr
theorem LR.next {W5 X Y : World} {bc w h N c k gk : Nat} {g : List Mv} {v : Value} {cs : List Int} (hc1 : 1 ≤ c) (hk : k + (gk + 1) = c ^ N) (hcs : (allC c N)[k]? = some cs) (hl : LO W5 bc w h N c g (k + 1) v X) (hb : bc < W5.heap.size) (a : Gx bc X Y) (ha : Ar3 Y bc (nxt c cs).2) :
    LR W5 bc w h N c g gk v (.bool (nxt c cs).1) Y := by
  obtain ⟨n1, n2, -⟩ := nxt_at c hc1 N k cs hcs
  refine ⟨?_, k + 1, by omega, fun hg => ?_, hl.gx a hb⟩
  · by_cases h0 : 0 < gk
    · rw [(n1 (by omega)).1, decide_eq_true h0]
    · rw [n2 (by omega), decide_eq_false h0]
  · exact ⟨_, (n1 (by omega)).2, ha⟩
theorem LO.il {wr : World} {bc w h N c k : Nat} {g : List Mv} {ds : List Sl} {x : Sl} (h1 : ds.map Sl.l = ((allC c N).take k).filter (isF w h N g)) (h3 : ∀ x ∈ ds, A3 wr x.b x.l ∧ bc < x.b ∧ N ≤ x.c ∧ x.c ≤ 9223372036854775807) (hx : x ∈ ds) : Il wr (.slice (some ⟨x.b, 0, none⟩) N x.c) x.l := by
  have hm : x.l ∈ ((allC c N).take k).filter (isF w h N g) := by rw [← h1]; exact List.mem_map_of_mem hx
  have hl := (allC_mem.1 (List.mem_of_mem_take (List.mem_filter.1 hm).1)).1
  obtain ⟨a1, -, a3, a4⟩ := h3 x hx
  have := a1.aw.il x.c (by omega) a4
  rwa [hl] at this
theorem LO.add {W5 V X : World} {bc w h N c k n : Nat} {g : List Mv} {v v' : Value} {cs : List Int} {b cr : Nat} {o : Obj} {ds : List Sl} (hc : (allC c N)[k]? = some cs) (hf : isF w h N g cs = true)
    (h1 : ds.map Sl.l = ((allC c N).take k).filter (isF w h N g)) (hown : (V.alloc o).ownsRow W5.heap.size 27 3 v ds.length (ds.flatMap (encL w h N))) (h3 : ∀ x ∈ ds, A3 V x.b x.l ∧ bc < x.b ∧ N ≤ x.c ∧ x.c ≤ 9223372036854775807) (h4 : Gx bc W5 V)
    (hn : n = ds.length + 1) (hown' : X.ownsRow W5.heap.size 27 3 v' n (ds.flatMap (encL w h N) ++ encL w h N ⟨b, cr, cs⟩)) (hgrow : (V.alloc o).grownBy X v.ownBlock) (ha : A3 V b cs) (hb : bc < b) (hcr : N ≤ cr ∧ cr ≤ 9223372036854775807) : LO W5 bc w h N c g (k + 1) v' X := by
  have keep : ∀ b' l', A3 V b' l' → A3 X b' l' := fun b' l' h => by
    have h5 : A3 (V.alloc o) b' l' := h.ext ((Ext.refl _).alc _)
    exact h5.grown hgrow (h5.not_row (by decide) hown)
  refine ⟨ds ++ [⟨b, cr, cs⟩], ?_, ?_, fun x hx => ?_, ?_⟩
  · rw [List.map_append, h1, take_snoc' hc, List.filter_append]
    simp [hf]
  · rw [List.length_append, List.length_singleton, ← hn, List.flatMap_append]
    simpa using hown'
  · rcases List.mem_append.1 hx with h5 | h5
    · exact ⟨keep _ _ (h3 x h5).1, (h3 x h5).2⟩
    · rw [List.mem_singleton] at h5; subst h5
      exact ⟨keep _ _ ha, hb, hcr⟩
  · have g1 : Gx bc V (V.alloc o) := Gx.of ((Ext.refl V).alc o)
    have hrow := fun q hq => (hown.lt q hq).1
    refine ⟨(hgrow.os.trans g1.os).trans h4.os, (hgrow.tape.trans g1.tape).trans h4.tape, (hgrow.output.trans g1.output).trans h4.output, Nat.le_trans h4.size (Nat.le_trans g1.size hgrow.size), fun q hq hne => ?_⟩
    have hqV : q < V.heap.size := Nat.lt_of_lt_of_le hq h4.size
    exact ((hgrow.block q (Nat.lt_of_lt_of_le hqV g1.size) (fun e => by have := hrow q e.symm; omega)).trans (g1.block q hqV hne)).trans (h4.block q hq hne)

set_option maxRecDepth 100000 in
theorem clone_own (b off n c : Nat) (l : List Int) (W : World) (hn : n = l.length) (h70 : n ≤ 70) (hn1 : 1 ≤ n) (hb : b < W.heap.size) (hc : ∀ j, j < n → W.cell? ⟨b, off + j, none⟩ = some (.int .i64 (l.getD j 0))) :
    Calls Try.prog 49 #[.slice (some ⟨b, off, none⟩) n c] W fun e W' => ∃ g cap, e = .returned (.slice (some ⟨g, 0, none⟩) n cap) ∧ W.heap.size ≤ g ∧ n ≤ cap ∧ cap ≤ 9223372036854775807 ∧ A3 W' g l ∧ Ext W W' := by
  obtain ⟨i0, hi, hz0, hz1, hz2⟩ := info_parts info3
  have Hn := Lib.hid hn; clear hn
  have HC := Lib.hid hc; clear hc
  have hq := fun (w : World) => Lib.run_eql_slice_nil (P := Try.prog) w 22 3 (some ⟨b, off, none⟩) n c 0 0 Try.underlying22
  go_enter Try.func49, Try.ntmps49
  go_wp2_with (at_builtin; refine wpList_append_own _ rfl _ _ 22 rfl W.heap.size 3 i0 (.int .i64 0) 1 8 Try.underlying22 hi hz0 hz1 hz2 rfl (by decide) _ 0 [] rfl ?c0 ⟨b, off, none⟩ n c (l.map iv) rfl ?c6 ?c1 ?c2 ?c3 ?c4 ?c5 ?_)
  case c0 => exact World.ownsRow_lit W #[] 0 (base := W.heap.size) (size := 1) (e := 3) (Nat.le_refl _) (by unfold maxLen; omega) rfl
  case c6 => rw [List.length_map, ← Hn.out, Nat.mul_one]
  case c1 =>
    intro j u hj
    have hjl : j < l.length := by
      have := (List.getElem?_eq_some_iff.1 hj).1
      simpa using this
    rw [List.getElem?_map, List.getElem?_eq_getElem hjl] at hj
    simp only [Option.map_some, Option.some.injEq] at hj
    subst hj
    have e : (⟨b, off, none⟩ : Addr).add j = ⟨b, off + j, none⟩ := by unfold Addr.add; split <;> simp_all
    rw [e, World.cell?_alloc_past _ _ _ hb, HC.out j (by rw [Hn.out]; exact hjl), List.getD_eq_getElem?_getD, List.getElem?_eq_getElem hjl]
    rfl
  case c2 =>
    intro u hu
    obtain ⟨t, -, rfl⟩ := List.mem_map.1 hu
    rfl
  case c3 => unfold maxLen; omega
  case c4 => omega
  case c5 => simp
  intro v' w1 hown hgrow _
  have hx : Ext W w1 := (al1 W _).grown hgrow (by simp) (fun k hk => (World.ownsRow_lit W #[] 0 (base := W.heap.size) (size := 1) (e := 3) (Nat.le_refl _) (by unfold maxLen; omega) rfl).lt k hk |>.1)
  obtain ⟨h1, h2 | ⟨g', cap, cur, rfl, hg, hh, hnc, hcap, hsz, htake⟩⟩ := hown
  · obtain ⟨he, h0⟩ := h2; omega
  have ha : A3 w1 g' l := ⟨cur, hh, by rw [← Hn.out]; simpa using htake⟩
  have HA := Lib.hid ha
  have HX := Lib.hid hx
  have HCAP : cap ≤ 9223372036854775807 := by unfold maxLen at hcap; omega
  clear hgrow hx ha hh hsz htake h1 hcap
  go_wp2
  go_ret
  exact ⟨g', cap, rfl, hg, hnc, HCAP, HA.out, HX.out⟩
end Go.Proofs.Ytgjanbgehbpciaa
