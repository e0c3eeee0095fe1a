/- Slices of numbers, of flags and of arcs, and blocks of them that may be written. -/
import Derived.Test.YtilcbbdmenknfaaB0
namespace Go.Proofs.Ytilcbbdmenknfaa
open Go.RowKit

/-- f with v at i -/
def up {α : Type} (f : Nat → α) (i : Nat) (v : α) : Nat → α := fun j => if j = i then v else f j
theorem up_self {α : Type} (f : Nat → α) (i : Nat) (v : α) : up f i v i = v := by simp [up]
theorem up_ne {α : Type} (f : Nat → α) {i j : Nat} (v : α) (h : j ≠ i) : up f i v j = f j := by simp [up, h]

/-- the n values f 0 .. lie at slice v, k cells each -/
def Vl (w : World) (v : Value) (n : Nat) (f : Nat → Value) : Prop :=
  ∃ A c, v = .slice A n c ∧ n ≤ c ∧ c ≤ 9223372036854775807 ∧ (0 < n → ∃ b off, A = some ⟨b, off, none⟩ ∧ b < w.heap.size ∧ ∀ j, j < n → w.cell? ⟨b, off + j, none⟩ = some (f j))
theorem Vl.ext {w w' : World} {v : Value} {n : Nat} {f : Nat → Value} (h : Vl w v n f) (e : Ext w w') : Vl w' v n f := by
  obtain ⟨A, c, rfl, h1, h2, h3⟩ := h
  refine ⟨A, c, rfl, h1, h2, fun hp => ?_⟩
  obtain ⟨b, off, rfl, hb, hc⟩ := h3 hp
  exact ⟨b, off, rfl, Nat.lt_of_lt_of_le hb e.size, fun j hj => keepAt e hb (hc j hj)⟩
theorem Vl.congr {w : World} {v : Value} {n : Nat} {f g : Nat → Value} (h : Vl w v n f) (e : ∀ j, j < n → f j = g j) : Vl w v n g := by
  obtain ⟨A, c, rfl, h1, h2, h3⟩ := h
  refine ⟨A, c, rfl, h1, h2, fun hp => ?_⟩
  obtain ⟨b, off, rfl, hb, hc⟩ := h3 hp
  exact ⟨b, off, rfl, hb, fun j hj => by rw [← e j hj]; exact hc j hj⟩
/-- a slice of numbers, of flags -/
def Il (w : World) (v : Value) (n : Nat) (x : Nat → Int) : Prop := Vl w v n (fun j => .int .i64 (x j))
def Bl (w : World) (v : Value) (n : Nat) (s : Nat → Bool) : Prop := Vl w v n (fun j => .bool (s j))
theorem Il.ext {w w' : World} {v : Value} {n : Nat} {f : Nat → Int} (h : Il w v n f) (e : Ext w w') : Il w' v n f := Vl.ext h e
theorem Bl.ext {w w' : World} {v : Value} {n : Nat} {f : Nat → Bool} (h : Bl w v n f) (e : Ext w w') : Bl w' v n f := Vl.ext h e
theorem Il.congr {w : World} {v : Value} {n : Nat} {f g : Nat → Int} (h : Il w v n f) (e : ∀ j, j < n → f j = g j) : Il w v n g := Vl.congr h (fun j hj => by rw [e j hj])
theorem Bl.congr {w : World} {v : Value} {n : Nat} {f g : Nat → Bool} (h : Bl w v n f) (e : ∀ j, j < n → f j = g j) : Bl w v n g := Vl.congr h (fun j hj => by rw [e j hj])

/-- arcs: where from, where to, how much -/
structure Ar where
  n : Nat
  f : Nat → Int
  t : Nat → Int
  c : Nat → Int
/-- the arcs lie at slice v -/
def Al (w : World) (v : Value) (a : Ar) : Prop :=
  ∃ A c, v = .slice A a.n c ∧ a.n ≤ c ∧ c ≤ 9223372036854775807 ∧ (0 < a.n → ∃ b off, A = some ⟨b, off, none⟩ ∧ b < w.heap.size ∧
    ∀ j, j < a.n → w.cell? ⟨b, off + j * 3, none⟩ = some (.int .i64 (a.f j)) ∧ w.cell? ⟨b, off + j * 3 + 1, none⟩ = some (.int .i64 (a.t j)) ∧ w.cell? ⟨b, off + j * 3 + 2, none⟩ = some (.int .i64 (a.c j)))
theorem Al.ext {w w' : World} {v : Value} {a : Ar} (h : Al w v a) (e : Ext w w') : Al w' v a := by
  obtain ⟨A, c, rfl, h1, h2, h3⟩ := h
  refine ⟨A, c, rfl, h1, h2, fun hp => ?_⟩
  obtain ⟨b, off, rfl, hb, hc⟩ := h3 hp
  exact ⟨b, off, rfl, Nat.lt_of_lt_of_le hb e.size, fun j hj => ⟨keepAt e hb (hc j hj).1, keepAt e hb (hc j hj).2.1, keepAt e hb (hc j hj).2.2⟩⟩
/-- as a network -/
def Ar.nw (a : Ar) : Nw := ⟨a.n, fun k => (a.f k).toNat, fun k => (a.t k).toNat, a.c⟩
/-- are all arcs right, for N nodes and at most M -/
structure Ar.Ok (a : Ar) (N : Nat) (M : Int) : Prop where
  f0 : ∀ k, k < a.n → 0 ≤ a.f k
  fN : ∀ k, k < a.n → a.f k < N
  t0 : ∀ k, k < a.n → 0 ≤ a.t k
  tN : ∀ k, k < a.n → a.t k < N
  ne : ∀ k, k < a.n → a.f k ≠ a.t k
  c0 : ∀ k, k < a.n → 0 ≤ a.c k
  cM : ∀ k, k < a.n → a.c k ≤ M

/-- block b of w is the n values f 0 .. -/
def Bk (w : World) (b : Nat) (t : TypeId) (n : Nat) (f : Nat → Value) : Prop := w.heap[b]? = some (.cells (Array.ofFn fun i : Fin n => f i.1) t (0, 0))
section
variable {w w' : World} {b : Nat} {t : TypeId} {n : Nat} {f : Nat → Value}
theorem Bk.lt (h : Bk w b t n f) : b < w.heap.size := (Array.getElem?_eq_some_iff.1 h).1
theorem Bk.cell (h : Bk w b t n f) {i : Nat} (hi : i < n) : w.cell? ⟨b, i, none⟩ = some (f i) :=
  (cell_of_row w b i _ t (0, 0) h).trans (by simp [hi])
theorem Bk.free (h : Bk w b t n f) (i : Nat) : w.frozen? ⟨b, i, none⟩ = false := by
  unfold Bk at h
  simp [World.frozen?, h]
theorem Bk.drew (h : Bk w b t n f) : Bk w.drew b t n f := h
theorem Bk.alloc (h : Bk w b t n f) (o : Obj) : Bk (w.alloc o) b t n f := (Below.heap_alloc w o b h.lt).trans h
theorem Bk.ext (h : Bk w b t n f) (e : Ext w w') : Bk w' b t n f := (Below.block e b h.lt).trans h
theorem Bk.set_ (h : Bk w b t n f) (i : Nat) (v : Value) : Bk (w.setCell ⟨b, i, none⟩ v) b t n (up f i v) := by
  unfold Bk at h ⊢
  have e : (Array.ofFn fun j : Fin n => f j.1).setIfInBounds i v = Array.ofFn fun j : Fin n => up f i v j.1 := by
    apply Array.ext
    · simp
    · intro j h1 h2
      simp only [Array.size_setIfInBounds, Array.size_ofFn] at h1
      rw [Array.getElem_setIfInBounds (by simpa using h1)]
      simp [up, eq_comm]
  simp [World.setCell, Array.getElem?_modify, h, e]
theorem Bk.far (h : Bk w b t n f) {p : Addr} (hp : b ≠ p.block) (u : Value) : Bk (w.setCell p u) b t n f := (Below.heap_setCell w p u b hp).trans h
theorem Bk.vl (h : Bk w b t n f) (hn : n ≤ 9223372036854775807) : Vl w (.slice (some ⟨b, 0, none⟩) n n) n f :=
  ⟨_, n, rfl, Nat.le_refl _, hn, fun _ => ⟨b, 0, rfl, h.lt, fun j hj => by rw [Nat.zero_add]; exact h.cell hj⟩⟩
theorem Bk.congr {g : Nat → Value} (h : Bk w b t n f) (e : ∀ j, j < n → f j = g j) : Bk w b t n g := by
  have : (Array.ofFn fun i : Fin n => f i.1) = Array.ofFn fun i : Fin n => g i.1 := by congr 1; funext i; exact e i.1 i.2
  unfold Bk at h ⊢
  rw [← this]; exact h
end
/-- a block of numbers, of flags -/
def BI (w : World) (b n : Nat) (x : Nat → Int) : Prop := Bk w b 3 n (fun j => .int .i64 (x j))
def BB (w : World) (b n : Nat) (x : Nat → Bool) : Prop := Bk w b 4 n (fun j => .bool (x j))
section
variable {w w' : World} {b n : Nat} {x : Nat → Int} {s : Nat → Bool}
theorem BI.set_ (h : BI w b n x) (i : Nat) (v : Int) : BI (w.setCell ⟨b, i, none⟩ (.int .i64 v)) b n (up x i v) := by
  have := Bk.set_ h i (.int .i64 v)
  refine Bk.congr this fun j _ => ?_
  unfold up; split <;> rfl
theorem BB.set_ (h : BB w b n s) (i : Nat) (v : Bool) : BB (w.setCell ⟨b, i, none⟩ (.bool v)) b n (up s i v) := by
  have := Bk.set_ h i (.bool v)
  refine Bk.congr this fun j _ => ?_
  unfold up; split <;> rfl
theorem BI.ext (h : BI w b n x) (e : Ext w w') : BI w' b n x := Bk.ext h e
theorem BB.ext (h : BB w b n s) (e : Ext w w') : BB w' b n s := Bk.ext h e
theorem BI.il (h : BI w b n x) (hn : n ≤ 9223372036854775807) : Il w (.slice (some ⟨b, 0, none⟩) n n) n x := Bk.vl h hn
theorem BB.bl (h : BB w b n s) (hn : n ≤ 9223372036854775807) : Bl w (.slice (some ⟨b, 0, none⟩) n n) n s := Bk.vl h hn
end

set_option maxRecDepth 100000 in
theorem info3 : (Try.prog.info? 3).map (fun i => (i.zero, i.size, i.bytes)) = some (some (.int .i64 0), 1, 8) := by kernel_rfl
set_option maxRecDepth 100000 in
theorem info4 : (Try.prog.info? 4).map (fun i => (i.zero, i.size, i.bytes)) = some (some (.bool false), 1, 1) := by kernel_rfl
set_option maxRecDepth 100000 in
theorem info33 : (Try.prog.info? 33).map (fun i => (i.zero, i.size, i.bytes)) = some (some (.slice none 0 0), 1, 24) := by kernel_rfl

theorem made_one (z : Value) (hz : z.cells = #[z]) (k : Nat) : madeCells z.cells k = Array.ofFn fun _ : Fin k => z := by
  apply Array.ext
  · simp [madeCells, hz]
  · intro i h1 h2
    simp [madeCells, hz, Nat.mod_one]
theorem make_one (t e : TypeId) (z : Value) (by_ : Nat) (ht : Try.prog.underlying t = some (.slice e)) (hi : (Try.prog.info? e).map (fun i => (i.zero, i.size, i.bytes)) = some (some z, 1, by_)) (hz : z.cells = #[z]) (hb : by_ ≤ 24) (k : Nat) (hk : k ≤ 1000000) (w : World) :
    (Instr.makeSlice t (.int .i64 (k : Int)) (.int .i64 (k : Int))).run Try.prog w = .ok (.slice (some ⟨w.heap.size, 0, none⟩) k k) (w.alloc (.cells (Array.ofFn fun _ : Fin k => z) e)) := by
  obtain ⟨i0, hi, hz0, hz1, hz2⟩ := info_parts hi
  have h3 : k * by_ ≤ 24 * 1000000 := Nat.le_trans (Nat.mul_le_mul hk hb) (by omega)
  have hr := run_make (P := Try.prog) w t e i0 _ ht hi hz0 .i64 .i64 k k (by omega) (Int.le_refl _) (by rw [hz2, ← Int.natCast_mul, Nat.mul_comm]; omega) (by omega)
  rw [hr, Int.toNat_natCast, hz1, Nat.mul_one, made_one z hz]
end Go.Proofs.Ytilcbbdmenknfaa
