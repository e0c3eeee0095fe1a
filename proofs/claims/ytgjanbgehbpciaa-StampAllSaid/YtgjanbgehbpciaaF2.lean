/- Walks: the stamps that moves make, one after another. -/
import Derived.Test.YtgjanbgehbpciaaF1
import Derived.Test.YtgjanbgehbpciaaV11w
import Derived.Test.YtgjanbgehbpciaaD2
namespace Go.Proofs.Ytgjanbgehbpciaa
open Go.RowKit

/-- where the cells of a stamp lie, and what they are -/
structure Sd where
  b : Nat
  l : List Int
instance : Inhabited Sd := ⟨⟨0, []⟩⟩
/-- the three cells of a stamp -/
def encS (w h N : Nat) (x : Sd) : List Value := [.int .i64 w, .int .i64 h, .slice (some ⟨x.b, 0, none⟩) N N]
theorem encS_len (w h N : Nat) (l : List Sd) : (l.flatMap (encS w h N)).length = l.length * 3 := by
  induction l with
  | nil => rfl
  | cons m l ih => rw [List.flatMap_cons, List.length_append, ih, List.length_cons]; simp [encS]; omega
theorem encS_at (w h N : Nat) : ∀ (l : List Sd) (j : Nat) (x : Sd), l[j]? = some x → (l.flatMap (encS w h N))[j * 3]? = some (.int .i64 w) ∧ (l.flatMap (encS w h N))[j * 3 + 1]? = some (.int .i64 h) ∧ (l.flatMap (encS w h N))[j * 3 + 2]? = some (.slice (some ⟨x.b, 0, none⟩) N N)
  | [], j, m, he => by simp at he
  | a :: l, 0, m, he => by
    simp at he; subst he
    simp [List.flatMap_cons, encS]
  | a :: l, j + 1, m, he => by
    have ih := encS_at w h N l j m (by simpa using he)
    have e : ∀ k, (List.flatMap (encS w h N) (a :: l))[(j + 1) * 3 + k]? = (List.flatMap (encS w h N) l)[j * 3 + k]? := fun k => by
      rw [List.flatMap_cons, List.getElem?_append_right (by simp [encS]; omega)]
      congr 1
      simp [encS]; omega
    refine ⟨?_, ?_, ?_⟩
    · have := e 0; simp only [Nat.add_zero] at this; rw [this]; exact ih.1
    · rw [e 1]; exact ih.2.1
    · rw [e 2]; exact ih.2.2
theorem Ar3.grown {W Y : World} {g : Nat} {l : List Int} (h : Ar3 W g l) {row : Option Nat} (hg : W.grownBy Y row) (hne : some g ≠ row) : Ar3 Y g l := (hg.block g h.lt hne).trans h
theorem Ar3.not_row {W : World} {b : Nat} {l : List Int} (h : Ar3 W b l) {base size n : Nat} {e : TypeId} (he : e ≠ 3) {v : Value} {xs : List Value} (hr : W.ownsRow base e size v n xs) : some b ≠ v.ownBlock := by
  rcases hr.2 with ⟨rfl, _⟩ | ⟨g, cap, cur, rfl, _, hgb, _⟩
  · simp [Value.ownBlock]
  · intro e'
    have : b = g := by simpa [Value.ownBlock] using e'
    subst this
    unfold Ar3 at h
    rw [hgb] at h
    injection h with h1
    injection h1 with h2 h3
    exact he h3

theorem info27 : (Try.prog.info? 27).map (fun i => (i.zero, i.size, i.bytes)) = some (some (.agg #[.int .i64 0, .int .i64 0, .slice none 0 0]), 3, 40) := by kernel_rfl
/-- at the head of the loop -/
def OR (W1 : World) (w h N : Nat) (cs : List Int) (l : List Mv) (k : Nat) (v : Value) (wr : World) : Prop :=
  ∃ ds : List Sd, ds.map Sd.l = (l.take k).map (fun m => apl w h m cs N) ∧ ds.length = k ∧ wr.ownsRow W1.heap.size 27 3 v k (ds.flatMap (encS w h N)) ∧ (∀ x ∈ ds, Ar3 wr x.b x.l) ∧ Ext W1 wr
theorem applied_m (w h : Nat) (m : Mv) (b off c : Nat) (cs : List Int) (N : Nat) (W : World) (hs : okSize w h = true) (hm : has w h m = true)
    (hN : N = w * h) (hb : b < W.heap.size) (hc : ∀ j, j < N → W.cell? ⟨b, off + j, none⟩ = some (.int .i64 (cs.getD j 0))) :
    Calls Try.prog 52 #[.agg #[.int .i64 m.dx, .int .i64 m.dy, .int .i64 m.t, .bool m.f], .agg #[.int .i64 w, .int .i64 h, .slice (some ⟨b, off, none⟩) N c]] W fun e W' =>
      ∃ g, e = .returned (.agg #[.int .i64 w, .int .i64 h, .slice (some ⟨g, 0, none⟩) N N]) ∧ W.heap.size ≤ g ∧ Ar3 W' g (apl w h m cs N) ∧ Ext W W' := by
  have hs' := okSize_iff.1 hs
  rw [has_iff] at hm
  obtain ⟨dx, dy, t, f⟩ := m
  simp only at hm
  obtain ⟨n, rfl⟩ : ∃ n : Nat, t = n := ⟨t.toNat, by omega⟩
  exact applied_w w h dx dy n f b off c cs N W (by omega) (by omega) (by omega) hN hb hc
end Go.Proofs.Ytgjanbgehbpciaa
