/- The ground of the walks: worlds that only grow; drawn regions in two parts. · Slices of numbers, of flags and of arcs, and blocks of them that may be written. · append of one number onto a slice of the call's own, wherever in its block it begins: one way. · Walks: isBetween, reverse, the closures. -/
import Derived.Test.YtilcbbdmenknfaaProg
import Derived.Test.YtilcbbdmenknfaaM0
import Derived.Test.YtilcbbdmenknfaaM1
import Derived.WalkKit
import Derived.WalkLawsBesides
import Derived.WalkSpells
import Derived.Outline
import Derived.BigGuardPart
import Derived.Lib.Hide
import Derived.IntWalk
import Derived.Deep.QuietTactic
import Derived.BigQuiet
import Derived.StillTailTactics
import Derived.Deep.RegionHeld3
import Derived.Deep.DeepCutAuto
import Derived.OwnWalk
import Derived.ArgAppend
namespace Go.Proofs.Ytilcbbdmenknfaa
open Go.RowKit

theorem Below.toDrewN {B : Nat} {W w1 : World} (h : Below B W w1) (k : Nat) : Below B W (w1.drewN k) := ⟨h.os, h.tape, h.output, h.size, h.block⟩
theorem Below.unDrewN {B k : Nat} {W w1 : World} (h : Below B (W.drewN k) w1) : Below B W w1 := ⟨h.os, h.tape, h.output, h.size, h.block⟩
theorem Below.unDrew {B : Nat} {W w1 : World} (h : Below B W.drew w1) : Below B W w1 := ⟨h.os, h.tape, h.output, h.size, h.block⟩
theorem keepAt {B : Nat} {W w1 : World} {g i : Nat} {v : Value} (hb : Below B W w1) (hg : g < B) (h : W.cell? ⟨g, i, none⟩ = some v) : w1.cell? ⟨g, i, none⟩ = some v := (hb.cell (p := ⟨g, i, none⟩) hg).trans h
theorem below1 (w : World) (o : Obj) : Below w.heap.size w (w.alloc o) := (Below.refl _ _).alloc (Nat.le_refl _) _
theorem bcell {B : Nat} {W w1 : World} (hb : Below B W w1) : (∀ b o, b < B → w1.cell? ⟨b, o, none⟩ = W.cell? ⟨b, o, none⟩) ∧ (∀ b o, b < B → w1.frozen? ⟨b, o, none⟩ = W.frozen? ⟨b, o, none⟩) :=
  ⟨fun b o h => hb.cell (p := ⟨b, o, none⟩) h, fun b o h => hb.frozen (p := ⟨b, o, none⟩) h⟩
theorem nx {W w1 w2 : World} (h : Below W.heap.size W w1) (h2 : Below w1.heap.size w1 w2) : Below W.heap.size W w2 := h.trans (h2.mono h.size)
theorem al {W w1 : World} (h : Below W.heap.size W w1) (o : Obj) : Below W.heap.size W (w1.alloc o) := nx h (below1 _ _)
theorem sc {W w1 : World} (h : Below W.heap.size W w1) {g i : Nat} (hg : W.heap.size ≤ g) (v : Value) : Below W.heap.size W (w1.setCell ⟨g, i, none⟩ v) := h.setCell (p := ⟨g, i, none⟩) hg v
theorem al1 (W : World) (o1 : Obj) : Below W.heap.size W (W.alloc o1) := below1 W o1
theorem al2 (W : World) (o1 o2 : Obj) : Below W.heap.size W ((W.alloc o1).alloc o2) := al (al1 W o1) o2
theorem al3 (W : World) (o1 o2 o3 : Obj) : Below W.heap.size W (((W.alloc o1).alloc o2).alloc o3) := al (al2 W o1 o2) o3
theorem al4 (W : World) (o1 o2 o3 o4 : Obj) : Below W.heap.size W ((((W.alloc o1).alloc o2).alloc o3).alloc o4) := al (al3 W o1 o2 o3) o4
theorem al5 (W : World) (o1 o2 o3 o4 o5 : Obj) : Below W.heap.size W (((((W.alloc o1).alloc o2).alloc o3).alloc o4).alloc o5) := al (al4 W o1 o2 o3 o4) o5

/-- Y is X and more -/
def Ext (X Y : World) : Prop := Below X.heap.size X Y
theorem Ext.of {X Y : World} (h : Below X.heap.size X Y) : Ext X Y := h
theorem Ext.refl (X : World) : Ext X X := Below.refl _ _
theorem Ext.drw {X Y : World} (h : Ext X Y) : Ext X Y.drew := Below.drew (B := X.heap.size) h
theorem Ext.drwN {X Y : World} (h : Ext X Y) (k : Nat) : Ext X (Y.drewN k) := Below.toDrewN (B := X.heap.size) h k
theorem Ext.trans {X Y Z : World} (h : Ext X Y) (k : Ext Y Z) : Ext X Z := nx h k
theorem Ext.alc {X Y : World} (h : Ext X Y) (o : Obj) : Ext X (Y.alloc o) := al h o
theorem Ext.sc {X Y : World} (h : Ext X Y) {g i : Nat} {v : Value} (hg : X.heap.size ≤ g) : Ext X (Y.setCell ⟨g, i, none⟩ v) := Below.setCell (B := X.heap.size) h (p := ⟨g, i, none⟩) hg v
theorem Ext.size {X Y : World} (h : Ext X Y) : X.heap.size ≤ Y.heap.size := Below.size h
theorem Ext.at {X Y : World} (h : Ext X Y) {g i : Nat} {v : Value} (hg : g < X.heap.size) (hc : X.cell? ⟨g, i, none⟩ = some v) : Y.cell? ⟨g, i, none⟩ = some v := keepAt h hg hc

theorem wp_split {S : World → Prop} {P : Program} {Q : Exit → Act → World → Prop} {id : Nat} {a : Act} {w : World} {l : List Oper} (n : Nat) (hm : P.follows .mixedOrders = true)
    (hB : splitB .any l.toArray n = true) (hS : S w.drew)
    (h : wpAnyH P .any (l.take n).toArray (CutQ P l.toArray Q (l.drop n)) S n (Array.replicate n false) a w.drew) : (Code.region id l.toArray true).wp P Q a w :=
  wp_region_split n hm hB hS (fun _ => h)
theorem take_at {P : Program} {md : Region.Mode} {ops : Array Oper} {Q : Exit → Act → World → Prop} {S : World → Prop} (i : Nat) (d : Option Tmp) (v : Value) {oi : Oper} {fuel : Nat} {listed : Array Bool} {a : Act} {w : World} (hi : ops[i]? = some oi) (hd : oi.dst = d)
    (hs : Region.noSelect ops = true) (hf : Region.free md ops listed i = true) (hr : (Region.ready md ops listed).contains i = true)
    (hQ : ∀ c a w, Q (.panic c) (a.put oi.dst v) w → Q (.panic c) a w) (hy : YieldsIf P ops S oi v a) (hS : S w)
    (h : wpAnyH P md ops Q S fuel (listed.setIfInBounds i true) (a.put d v) w) : wpAnyH P md ops Q S (fuel + 1) listed a w :=
  wpAnyH_take hi hs hf hr hQ hy hS (by rw [hd]; exact h)
theorem World.ownsRow.ext {X Y : World} {base : Nat} {e : TypeId} {size : Nat} {v : Value} {n : Nat} {xs : List Value} (h : X.ownsRow base e size v n xs) (hx : Ext X Y) : Y.ownsRow base e size v n xs := by
  obtain ⟨h1, h2 | ⟨g, cap, cur, rfl, hg, hh, rest⟩⟩ := h
  · exact ⟨h1, .inl h2⟩
  · have hl : g < X.heap.size := (Array.getElem?_eq_some_iff.1 hh).1
    exact ⟨h1, .inr ⟨g, cap, cur, rfl, hg, (Below.block hx g hl).trans hh, rest⟩⟩
end Go.Proofs.Ytilcbbdmenknfaa
namespace Go.Proofs.Ytilcbbdmenknfaa
open Go.RowKit

/-- f with v at i -/
def up {α : Type} (f : Nat → α) (i : Nat) (v : α) : Nat → α := fun j => if j = i then v else f j
theorem up_self {α : Type} (f : Nat → α) (i : Nat) (v : α) : up f i v i = v := by simp [up]
theorem up_ne {α : Type} (f : Nat → α) {i j : Nat} (v : α) (h : j ≠ i) : up f i v j = f j := by simp [up, h]

/-- the n values f 0 .. lie at slice v, k cells each -/
def Vl (w : World) (v : Value) (n : Nat) (f : Nat → Value) : Prop :=
  ∃ A c, v = .slice A n c ∧ n ≤ c ∧ c ≤ 9223372036854775807 ∧ (0 < n → ∃ b off, A = some ⟨b, off, none⟩ ∧ b < w.heap.size ∧ ∀ j, j < n → w.cell? ⟨b, off + j, none⟩ = some (f j))
theorem Vl.ext {w w' : World} {v : Value} {n : Nat} {f : Nat → Value} (h : Vl w v n f) (e : Ext w w') : Vl w' v n f := by
  obtain ⟨A, c, rfl, h1, h2, h3⟩ := h
  refine ⟨A, c, rfl, h1, h2, fun hp => ?_⟩
  obtain ⟨b, off, rfl, hb, hc⟩ := h3 hp
  exact ⟨b, off, rfl, Nat.lt_of_lt_of_le hb e.size, fun j hj => keepAt e hb (hc j hj)⟩
theorem Vl.congr {w : World} {v : Value} {n : Nat} {f g : Nat → Value} (h : Vl w v n f) (e : ∀ j, j < n → f j = g j) : Vl w v n g := by
  obtain ⟨A, c, rfl, h1, h2, h3⟩ := h
  refine ⟨A, c, rfl, h1, h2, fun hp => ?_⟩
  obtain ⟨b, off, rfl, hb, hc⟩ := h3 hp
  exact ⟨b, off, rfl, hb, fun j hj => by rw [← e j hj]; exact hc j hj⟩
/-- a slice of numbers, of flags -/
def Il (w : World) (v : Value) (n : Nat) (x : Nat → Int) : Prop := Vl w v n (fun j => .int .i64 (x j))
def Bl (w : World) (v : Value) (n : Nat) (s : Nat → Bool) : Prop := Vl w v n (fun j => .bool (s j))
theorem Il.ext {w w' : World} {v : Value} {n : Nat} {f : Nat → Int} (h : Il w v n f) (e : Ext w w') : Il w' v n f := Vl.ext h e
theorem Bl.ext {w w' : World} {v : Value} {n : Nat} {f : Nat → Bool} (h : Bl w v n f) (e : Ext w w') : Bl w' v n f := Vl.ext h e
theorem Il.congr {w : World} {v : Value} {n : Nat} {f g : Nat → Int} (h : Il w v n f) (e : ∀ j, j < n → f j = g j) : Il w v n g := Vl.congr h (fun j hj => by rw [e j hj])
theorem Bl.congr {w : World} {v : Value} {n : Nat} {f g : Nat → Bool} (h : Bl w v n f) (e : ∀ j, j < n → f j = g j) : Bl w v n g := Vl.congr h (fun j hj => by rw [e j hj])

/-- arcs: where from, where to, how much -/
structure Ar where
  n : Nat
  f : Nat → Int
  t : Nat → Int
  c : Nat → Int
/-- the arcs lie at slice v -/
def Al (w : World) (v : Value) (a : Ar) : Prop :=
  ∃ A c, v = .slice A a.n c ∧ a.n ≤ c ∧ c ≤ 9223372036854775807 ∧ (0 < a.n → ∃ b off, A = some ⟨b, off, none⟩ ∧ b < w.heap.size ∧
    ∀ j, j < a.n → w.cell? ⟨b, off + j * 3, none⟩ = some (.int .i64 (a.f j)) ∧ w.cell? ⟨b, off + j * 3 + 1, none⟩ = some (.int .i64 (a.t j)) ∧ w.cell? ⟨b, off + j * 3 + 2, none⟩ = some (.int .i64 (a.c j)))
theorem Al.ext {w w' : World} {v : Value} {a : Ar} (h : Al w v a) (e : Ext w w') : Al w' v a := by
  obtain ⟨A, c, rfl, h1, h2, h3⟩ := h
  refine ⟨A, c, rfl, h1, h2, fun hp => ?_⟩
  obtain ⟨b, off, rfl, hb, hc⟩ := h3 hp
  exact ⟨b, off, rfl, Nat.lt_of_lt_of_le hb e.size, fun j hj => ⟨keepAt e hb (hc j hj).1, keepAt e hb (hc j hj).2.1, keepAt e hb (hc j hj).2.2⟩⟩
/-- as a network -/
def Ar.nw (a : Ar) : Nw := ⟨a.n, fun k => (a.f k).toNat, fun k => (a.t k).toNat, a.c⟩
/-- are all arcs right, for N nodes and at most M -/
structure Ar.Ok (a : Ar) (N : Nat) (M : Int) : Prop where
  f0 : ∀ k, k < a.n → 0 ≤ a.f k
  fN : ∀ k, k < a.n → a.f k < N
  t0 : ∀ k, k < a.n → 0 ≤ a.t k
  tN : ∀ k, k < a.n → a.t k < N
  ne : ∀ k, k < a.n → a.f k ≠ a.t k
  c0 : ∀ k, k < a.n → 0 ≤ a.c k
  cM : ∀ k, k < a.n → a.c k ≤ M

/-- block b of w is the n values f 0 .. -/
def Bk (w : World) (b : Nat) (t : TypeId) (n : Nat) (f : Nat → Value) : Prop := w.heap[b]? = some (.cells (Array.ofFn fun i : Fin n => f i.1) t (0, 0))
section
variable {w w' : World} {b : Nat} {t : TypeId} {n : Nat} {f : Nat → Value}
theorem Bk.lt (h : Bk w b t n f) : b < w.heap.size := (Array.getElem?_eq_some_iff.1 h).1
theorem Bk.cell (h : Bk w b t n f) {i : Nat} (hi : i < n) : w.cell? ⟨b, i, none⟩ = some (f i) :=
  (cell_of_row w b i _ t (0, 0) h).trans (by simp [hi])
theorem Bk.free (h : Bk w b t n f) (i : Nat) : w.frozen? ⟨b, i, none⟩ = false := by
  unfold Bk at h
  simp [World.frozen?, h]
theorem Bk.drew (h : Bk w b t n f) : Bk w.drew b t n f := h
theorem Bk.alloc (h : Bk w b t n f) (o : Obj) : Bk (w.alloc o) b t n f := (Below.heap_alloc w o b h.lt).trans h
theorem Bk.ext (h : Bk w b t n f) (e : Ext w w') : Bk w' b t n f := (Below.block e b h.lt).trans h
theorem Bk.set_ (h : Bk w b t n f) (i : Nat) (v : Value) : Bk (w.setCell ⟨b, i, none⟩ v) b t n (up f i v) := by
  unfold Bk at h ⊢
  have e : (Array.ofFn fun j : Fin n => f j.1).setIfInBounds i v = Array.ofFn fun j : Fin n => up f i v j.1 := by
    apply Array.ext
    · simp
    · intro j h1 h2
      simp only [Array.size_setIfInBounds, Array.size_ofFn] at h1
      rw [Array.getElem_setIfInBounds (by simpa using h1)]
      simp [up, eq_comm]
  simp [World.setCell, Array.getElem?_modify, h, e]
theorem Bk.far (h : Bk w b t n f) {p : Addr} (hp : b ≠ p.block) (u : Value) : Bk (w.setCell p u) b t n f := (Below.heap_setCell w p u b hp).trans h
theorem Bk.vl (h : Bk w b t n f) (hn : n ≤ 9223372036854775807) : Vl w (.slice (some ⟨b, 0, none⟩) n n) n f :=
  ⟨_, n, rfl, Nat.le_refl _, hn, fun _ => ⟨b, 0, rfl, h.lt, fun j hj => by rw [Nat.zero_add]; exact h.cell hj⟩⟩
theorem Bk.congr {g : Nat → Value} (h : Bk w b t n f) (e : ∀ j, j < n → f j = g j) : Bk w b t n g := by
  have : (Array.ofFn fun i : Fin n => f i.1) = Array.ofFn fun i : Fin n => g i.1 := by congr 1; funext i; exact e i.1 i.2
  unfold Bk at h ⊢
  rw [← this]; exact h
end
/-- a block of numbers, of flags -/
def BI (w : World) (b n : Nat) (x : Nat → Int) : Prop := Bk w b 3 n (fun j => .int .i64 (x j))
def BB (w : World) (b n : Nat) (x : Nat → Bool) : Prop := Bk w b 4 n (fun j => .bool (x j))
section
variable {w w' : World} {b n : Nat} {x : Nat → Int} {s : Nat → Bool}
theorem BI.set_ (h : BI w b n x) (i : Nat) (v : Int) : BI (w.setCell ⟨b, i, none⟩ (.int .i64 v)) b n (up x i v) := by
  have := Bk.set_ h i (.int .i64 v)
  refine Bk.congr this fun j _ => ?_
  unfold up; split <;> rfl
theorem BB.set_ (h : BB w b n s) (i : Nat) (v : Bool) : BB (w.setCell ⟨b, i, none⟩ (.bool v)) b n (up s i v) := by
  have := Bk.set_ h i (.bool v)
  refine Bk.congr this fun j _ => ?_
  unfold up; split <;> rfl
theorem BI.ext (h : BI w b n x) (e : Ext w w') : BI w' b n x := Bk.ext h e
theorem BB.ext (h : BB w b n s) (e : Ext w w') : BB w' b n s := Bk.ext h e
theorem BI.il (h : BI w b n x) (hn : n ≤ 9223372036854775807) : Il w (.slice (some ⟨b, 0, none⟩) n n) n x := Bk.vl h hn
theorem BB.bl (h : BB w b n s) (hn : n ≤ 9223372036854775807) : Bl w (.slice (some ⟨b, 0, none⟩) n n) n s := Bk.vl h hn
end

set_option maxRecDepth 100000 in
theorem info3 : (Try.prog.info? 3).map (fun i => (i.zero, i.size, i.bytes)) = some (some (.int .i64 0), 1, 8) := by kernel_rfl
set_option maxRecDepth 100000 in
theorem info4 : (Try.prog.info? 4).map (fun i => (i.zero, i.size, i.bytes)) = some (some (.bool false), 1, 1) := by kernel_rfl
set_option maxRecDepth 100000 in
theorem info33 : (Try.prog.info? 33).map (fun i => (i.zero, i.size, i.bytes)) = some (some (.slice none 0 0), 1, 24) := by kernel_rfl

theorem made_one (z : Value) (hz : z.cells = #[z]) (k : Nat) : madeCells z.cells k = Array.ofFn fun _ : Fin k => z := by
  apply Array.ext
  · simp [madeCells, hz]
  · intro i h1 h2
    simp [madeCells, hz, Nat.mod_one]
theorem make_one (t e : TypeId) (z : Value) (by_ : Nat) (ht : Try.prog.underlying t = some (.slice e)) (hi : (Try.prog.info? e).map (fun i => (i.zero, i.size, i.bytes)) = some (some z, 1, by_)) (hz : z.cells = #[z]) (hb : by_ ≤ 24) (k : Nat) (hk : k ≤ 1000000) (w : World) :
    (Instr.makeSlice t (.int .i64 (k : Int)) (.int .i64 (k : Int))).run Try.prog w = .ok (.slice (some ⟨w.heap.size, 0, none⟩) k k) (w.alloc (.cells (Array.ofFn fun _ : Fin k => z) e)) := by
  obtain ⟨i0, hi, hz0, hz1, hz2⟩ := info_parts hi
  have h3 : k * by_ ≤ 24 * 1000000 := Nat.le_trans (Nat.mul_le_mul hk hb) (by omega)
  have hr := run_make (P := Try.prog) w t e i0 _ ht hi hz0 .i64 .i64 k k (by omega) (Int.le_refl _) (by rw [hz2, ← Int.natCast_mul, Nat.mul_comm]; omega) (by omega)
  rw [hr, Int.toNat_natCast, hz1, Nat.mul_one, made_one z hz]
end Go.Proofs.Ytilcbbdmenknfaa
namespace Go.Proofs.Ytilcbbdmenknfaa
open Go.RowKit

/-- the slice v of n numbers x 0 .. lies in a block of its own, from base on, and what is behind it is free -/
def Qs (w : World) (base : Nat) (v : Value) (n : Nat) (x : Nat → Int) : Prop :=
  (∀ b, v.ownBlock = some b → base ≤ b ∧ b < w.heap.size) ∧ ∃ A c, v = .slice A n c ∧ n ≤ c ∧ c ≤ maxLen ∧ (c = 0 ∨ ∃ g off cur, A = some ⟨g, off, none⟩ ∧ base ≤ g ∧ w.heap[g]? = some (.cells cur 3 (0, 0)) ∧ off + c ≤ cur.size ∧ ∀ j, j < n → cur[off + j]? = some (.int .i64 (x j)))
section
variable {w w' : World} {base : Nat} {v : Value} {n : Nat} {x : Nat → Int}
theorem Qs.nil (w : World) (base : Nat) (x : Nat → Int) : Qs w base (.slice none 0 0) 0 x := ⟨fun _ h => by simp [Value.ownBlock] at h, none, 0, rfl, Nat.le_refl _, Nat.zero_le _, .inl rfl⟩
theorem Qs.il (h : Qs w base v n x) : Il w v n x := by
  obtain ⟨-, A, c, rfl, h1, h2, h3⟩ := h
  refine ⟨A, c, rfl, h1, by simp only [maxLen] at h2; omega, fun hp => ?_⟩
  rcases h3 with h0 | ⟨g, off, cur, rfl, hb, hg, hs, hc⟩
  · omega
  · exact ⟨g, off, rfl, (Array.getElem?_eq_some_iff.1 hg).1, fun j hj => (cell_of_row w g (off + j) cur 3 (0, 0) hg).trans (hc j hj)⟩
theorem Qs.congr {z : Nat → Int} (h : Qs w base v n x) (e : ∀ j, j < n → x j = z j) : Qs w base v n z := by
  obtain ⟨h0, A, c, rfl, h1, h2, h3⟩ := h
  exact ⟨h0, A, c, rfl, h1, h2, h3.imp id fun ⟨g, off, cur, hA, hb, hg, hs, hc⟩ => ⟨g, off, cur, hA, hb, hg, hs, fun j hj => by rw [← e j hj]; exact hc j hj⟩⟩
theorem Qs.block (h : Qs w base v n x) (hs : w.heap.size ≤ w'.heap.size) (hk : ∀ g, v.ownBlock = some g → w'.heap[g]? = w.heap[g]?) : Qs w' base v n x := by
  obtain ⟨h0, A, c, rfl, h1, h2, h3⟩ := h
  exact ⟨fun b hb => ⟨(h0 b hb).1, Nat.lt_of_lt_of_le (h0 b hb).2 hs⟩, A, c, rfl, h1, h2, h3.imp id fun ⟨g, off, cur, hA, hb, hg, hs, hc⟩ => ⟨g, off, cur, hA, hb, (hk g (by subst hA; rfl)).trans hg, hs, hc⟩⟩
theorem Qs.ext (h : Qs w base v n x) (e : Ext w w') : Qs w' base v n x := by
  obtain ⟨h0, A, c, rfl, h1, h2, h3⟩ := h
  exact ⟨fun b hb => ⟨(h0 b hb).1, Nat.lt_of_lt_of_le (h0 b hb).2 e.size⟩, A, c, rfl, h1, h2, h3.imp id fun ⟨g, off, cur, hA, hb, hg, hs, hc⟩ => ⟨g, off, cur, hA, hb, (Below.block e g (Array.getElem?_eq_some_iff.1 hg).1).trans hg, hs, hc⟩⟩
/-- behind its first -/
theorem Qs.tail {A : Option Addr} {c : Nat} (h : Qs w base (.slice A (n + 1) c) (n + 1) x) (B : Option Addr) (hb0 : ∀ b, (Value.slice B n (c - 1)).ownBlock = some b → base ≤ b ∧ b < w.heap.size) (hB : ∀ g off, A = some ⟨g, off, none⟩ → 0 < c - 1 → B = some ⟨g, off + 1, none⟩) :
    Qs w base (.slice B n (c - 1)) n (fun j => x (j + 1)) := by
  obtain ⟨-, A', c', e, h1, h2, h3⟩ := h
  injection e with e1 _ e3
  subst e1 e3
  refine ⟨hb0, B, c - 1, rfl, by omega, by omega, ?_⟩
  rcases h3 with h0 | ⟨g, off, cur, rfl, hb, hg, hs, hc⟩
  · left; omega
  · rcases Nat.eq_zero_or_pos (c - 1) with hz | hp
    · left; exact hz
    · right
      exact ⟨g, off + 1, cur, hB g off rfl hp, hb, hg, by omega, fun j hj => by rw [show off + 1 + j = off + (j + 1) by omega]; exact hc (j + 1) (by omega)⟩
/-- a block of one number -/
theorem Qs.one (w : World) (base : Nat) (z : Int) (hb : base ≤ w.heap.size) (x : Nat → Int) (hx : x 0 = z) : Qs (w.alloc (.cells #[.int .i64 z] 3)) base (.slice (some ⟨w.heap.size, 0, none⟩) 1 1) 1 x :=
  ⟨fun b h => by simp [Value.ownBlock] at h; simp; omega, _, 1, rfl, Nat.le_refl _, by simp only [maxLen]; omega, .inr ⟨w.heap.size, 0, _, rfl, hb, heap_alloc_new w _, by simp, fun j hj => by
    obtain rfl : j = 0 := by omega
    simp [hx]⟩⟩
end

/-- what an append leaves: the slice's own block may be written, the new value has it or a new one -/
structure Grew (w w' : World) (v v' : Value) : Prop where
  by_ : w.grownBy w' v.ownBlock
  own : v'.ownBlock = v.ownBlock ∨ ∃ g, v'.ownBlock = some g ∧ w.heap.size ≤ g

section
variable {w w' : World} {v v' : Value}
theorem Grew.ext {X : World} (h : Grew w w' v v') (e : Ext X w) (ho : ∀ b, v.ownBlock = some b → X.heap.size ≤ b) : Ext X w' :=
  ⟨h.by_.os.trans e.os, h.by_.tape.trans e.tape, h.by_.output.trans e.output, Nat.le_trans e.size h.by_.size, fun k hk => (h.by_.block k (Nat.lt_of_lt_of_le hk e.size) (fun c => by have := ho k c.symm; omega)).trans (e.block k hk)⟩
theorem Grew.bk {b n : Nat} {t : TypeId} {f : Nat → Value} (h : Grew w w' v v') (hb : Bk w b t n f) (ho : v.ownBlock ≠ some b) : Bk w' b t n f := (h.by_.block b hb.lt (fun c => ho c.symm)).trans hb
theorem Grew.bi {b n : Nat} {f : Nat → Int} (h : Grew w w' v v') (hb : BI w b n f) (ho : v.ownBlock ≠ some b) : BI w' b n f := h.bk hb ho
theorem Grew.bb {b n : Nat} {f : Nat → Bool} (h : Grew w w' v v') (hb : BB w b n f) (ho : v.ownBlock ≠ some b) : BB w' b n f := h.bk hb ho
theorem Grew.apart {b : Nat} (h : Grew w w' v v') (hb : b < w.heap.size) (ho : v.ownBlock ≠ some b) : v'.ownBlock ≠ some b := by
  rcases h.own with e | ⟨g, e, hg⟩
  · rw [e]; exact ho
  · rw [e]; intro c; injection c with c; omega
end

theorem run_append_q {P : Program} (w : World) (t ty : TypeId) (i : TypeInfo) (ht : P.underlying t = some (.slice 3)) (hi : P.info? 3 = some i) (hz : i.zero = some (.int .i64 0)) (hsize : i.size = 1) (hby : i.bytes = 8)
    (base : Nat) (v : Value) (n : Nat) (x : Nat → Int) (h : Qs w base v n x) (hbase : base ≤ w.heap.size) (a : Addr) (c : Nat) (z : Int) (ha : w.cell? a = some (.int .i64 z)) (hn : n ≤ 1000000) :
    ∃ v' w', (Builtin.append_ #[t, t] ty #[v, .slice (some a) 1 c]).run P w = .ok v' w' ∧ Qs w' base v' (n + 1) (up x n z) ∧ Grew w w' v v' := by
  have hnews : ∀ j u, [Value.int .i64 z][j]? = some u → w.cell? (a.add j) = some u := by
    intro j u hj
    cases j with
    | zero =>
      simp at hj; subst hj
      have : a.add 0 = a := by cases a; unfold Addr.add; split <;> simp_all
      rw [this]; exact ha
    | succ j => simp at hj
  have h1c : ∀ u ∈ [Value.int .i64 z], u.oneCell' = true := by intro u hu; simp at hu; subst hu; rfl
  obtain ⟨hown, A, cap, rfl, hnc, hcm, h3⟩ := h
  have fresh : ∀ v' w', w'.ownsRow w.heap.size 3 1 v' (n + 1) (((List.range n).map fun j => Value.int .i64 (x j)) ++ [.int .i64 z]) → Qs w' base v' (n + 1) (up x n z) ∧ ∃ g, v'.ownBlock = some g ∧ w.heap.size ≤ g := by
    intro v' w' ho
    obtain ⟨hl, h | ⟨g, cap', cur, rfl, hg, hh, h1, h2, h4, h5⟩⟩ := ho
    · omega
    · refine ⟨⟨fun b hb => by simp [Value.ownBlock] at hb; subst hb; exact ⟨by omega, (Array.getElem?_eq_some_iff.1 hh).1⟩, _, cap', rfl, h1, h2, .inr ⟨g, 0, cur, rfl, by omega, hh, by omega, fun j hj => ?_⟩⟩, g, rfl, hg⟩
      have h6 : (cur.toList.take ((n + 1) * 1))[j]? = cur[0 + j]? := by
        rw [List.getElem?_take, if_pos (by omega)]
        simp
      rw [← h6, h5]
      by_cases e : j < n
      · rw [List.getElem?_append_left (by simp; omega), up_ne _ _ (by omega)]
        simp [e]
      · obtain rfl : j = n := by omega
        rw [List.getElem?_append_right (by simp), up_self]
        simp
  have holds : ∀ b, A = some b → ∀ j u, ((List.range n).map fun j => Value.int .i64 (x j))[j]? = some u → w.cell? (b.add j) = some u := by
    intro b hb j u hj
    have hjn : j < n := by
      rcases Nat.lt_or_ge j n with h | h
      · exact h
      · rw [List.getElem?_eq_none (by simp; omega)] at hj; cases hj
    rcases h3 with h0 | ⟨g, off, cur, hA, hbb, hg, hs, hc⟩
    · omega
    · rw [hA] at hb; injection hb with hb; subst hb
      have : (⟨g, off, none⟩ : Addr).add j = ⟨g, off + j, none⟩ := by unfold Addr.add; split <;> simp_all
      rw [this, cell_of_row w g (off + j) cur 3 (0, 0) hg, hc j hjn]
      simp [hjn] at hj
      rw [← hj]
  by_cases hr : n + 1 ≤ cap
  · rcases h3 with h0 | ⟨g, off, cur, rfl, hbb, hg, hs, hc⟩
    · omega
    have hcell : ∀ j, j < [Value.int .i64 z].length → (w.cell? ⟨g, off + n * i.size + j, none⟩).isSome = true := by
      intro j hj
      simp at hj
      subst hj
      rw [hsize, Nat.mul_one, Nat.add_zero, cell_of_row w g (off + n) cur 3 (0, 0) hg]
      simp; omega
    have hfree : ∀ j, j < [Value.int .i64 z].length → w.frozen? ⟨g, off + n * i.size + j, none⟩ = false := fun j _ => by simp [World.frozen?, hg]
    have hrun := run_append_room_cells (P := P) w t ty 3 i ht hi g off n cap a 1 c [.int .i64 z] (by rw [hsize]; rfl) hnews h1c hr hcell hfree
    rw [hsize, Nat.mul_one] at hrun
    have hw : w.setCells g (off + n) [.int .i64 z] = w.setCell ⟨g, off + n, none⟩ (.int .i64 z) := rfl
    rw [hw] at hrun
    have hnew : (w.setCell ⟨g, off + n, none⟩ (.int .i64 z)).heap[g]? = some (.cells (cur.setIfInBounds (off + n) (.int .i64 z)) 3 (0, 0)) := by simp [World.setCell, Array.getElem?_modify, hg]
    refine ⟨_, _, hrun, ⟨fun b hb => ⟨(hown b hb).1, by have := (hown b hb).2; simpa [World.setCell] using this⟩, _, cap, rfl, hr, hcm, .inr ⟨g, off, _, rfl, hbb, hnew, by simpa using hs, fun j hj => ?_⟩⟩, ⟨⟨rfl, rfl, rfl, by simp [World.setCell], fun k hk hne => ?_⟩, .inl rfl⟩⟩
    · by_cases e : j = n
      · subst e
        rw [up_self, Array.getElem?_setIfInBounds, if_pos rfl, if_pos (by omega)]
      · rw [up_ne _ _ e, Array.getElem?_setIfInBounds, if_neg (by omega)]
        exact hc j (by omega)
    · exact Below.heap_setCell w ⟨g, off + n, none⟩ _ k (fun e => hne (by simp [Value.ownBlock, e]))
  · have hlen : ((List.range n).map fun j => Value.int .i64 (x j)).length = n * 1 := by simp
    cases hA : A with
    | some b =>
      obtain ⟨v', w', hrun, r1, r2⟩ := run_append_arg_grows (P := P) w t ty 3 i (Value.int .i64 0) 1 8 ht hi hz hsize hby rfl (by omega) b n cap _ hlen (holds b hA) a 1 c [Value.int .i64 z] rfl hnews (by omega) (by simp only [maxLen]; omega) (by omega)
      obtain ⟨q1, q2⟩ := fresh v' w' r1
      exact ⟨v', w', hrun, q1, ⟨⟨r2.os, r2.tape, r2.output, r2.size, fun k hk _ => r2.block k hk (by simp)⟩, .inr q2⟩⟩
    | none =>
      have hc0 : cap = 0 := by
        rcases h3 with h0 | ⟨g, off, cur, h, _⟩
        · exact h0
        · rw [hA] at h; cases h
      subst hc0
      obtain rfl : n = 0 := by omega
      obtain ⟨v', w', hrun, r1, r2, _⟩ := run_append_own (P := P) w w.heap.size t ty 3 i _ 1 8 ht hi hz hsize hby rfl (by omega) (.slice none 0 0) 0 [] (World.ownsRow_nil w _ 3 1) a 1 c [Value.int .i64 z] rfl hnews h1c (by simp only [maxLen]; omega) (by omega) (Nat.le_refl _)
      obtain ⟨q1, q2⟩ := fresh v' w' r1
      exact ⟨v', w', hrun, q1, ⟨⟨r2.os, r2.tape, r2.output, r2.size, fun k hk _ => r2.block k hk (by simp [Value.ownBlock])⟩, .inr q2⟩⟩

section
variable {P : Program} {w : World} {o : Oper} {a : Act} {K : Act → World → Prop} {Q : Exit → Act → World → Prop}
theorem wp_append_q (s x : Operand) (t : TypeId) (ho : o.op = .call { callee := .builtin .append, args := #[s, x], argTypes := #[t, t] })
    (i : TypeInfo) (ht : P.underlying t = some (.slice 3)) (hi : P.info? 3 = some i) (hz : i.zero = some (.int .i64 0)) (hsize : i.size = 1) (hby : i.bytes = 8)
    (base : Nat) (v : Value) (n : Nat) (f : Nat → Int) (hs : a.eval s = v) (h : Qs w base v n f) (hbase : base ≤ w.heap.size) (ad : Addr) (c : Nat) (z : Int) (hx : a.eval x = .slice (some ad) 1 c) (ha : w.cell? ad = some (.int .i64 z)) (hn : n ≤ 1000000)
    (hK : ∀ v' w', Qs w' base v' (n + 1) (up f n z) → Grew w w' v v' → K (a.put o.dst v') w') : o.wp P a w K Q := by
  obtain ⟨v', w', hr, h2, h3⟩ := run_append_q (P := P) w t o.type i ht hi hz hsize hby base v n f h hbase ad c z ha hn
  unfold Oper.wp execOp
  simp only [ho, resolve, invoke, builtin, Sem.run_bind, Sem.run_pure, Result.andThen_ok, List.map_toArray, List.map_cons, List.map_nil, hs, hx, hr]
  exact hK v' w' h2 h3
theorem wpList_append_q {ops : Array Oper} {rest : List Oper} (hgd : o.guard = none) (s x : Operand) (t : TypeId) (ho : o.op = .call { callee := .builtin .append, args := #[s, x], argTypes := #[t, t] })
    (i : TypeInfo) (ht : P.underlying t = some (.slice 3)) (hi : P.info? 3 = some i) (hz : i.zero = some (.int .i64 0)) (hsize : i.size = 1) (hby : i.bytes = 8)
    (base : Nat) (v : Value) (n : Nat) (f : Nat → Int) (hs : a.eval s = v) (h : Qs w base v n f) (hbase : base ≤ w.heap.size) (ad : Addr) (c : Nat) (z : Int) (hx : a.eval x = .slice (some ad) 1 c) (ha : w.cell? ad = some (.int .i64 z)) (hn : n ≤ 1000000)
    (hK : ∀ v' w', Qs w' base v' (n + 1) (up f n z) → Grew w w' v v' → wpList P ops Q rest (a.put o.dst v') w') : wpList P ops Q (o :: rest) a w :=
  wpList_plain hgd fun K hK' => wp_append_q s x t ho i ht hi hz hsize hby base v n f hs h hbase ad c z hx ha hn fun v' w' h1 h2 => hK' _ _ (hK v' w' h1 h2)
end
end Go.Proofs.Ytilcbbdmenknfaa
namespace Go.Proofs.Ytilcbbdmenknfaa
open Go.RowKit

theorem isBetween_any (x lo hi : Int) (W : World) : Calls Try.prog 63 #[.int .i64 x, .int .i64 lo, .int .i64 hi] W fun e W' => e = .returned (.bool (decide (lo ≤ x) && decide (x ≤ hi))) ∧ W = W' := by
  by_cases h : lo ≤ x
  · rw [decide_eq_true h, Bool.true_and]
    go_enter Try.func63, Try.ntmps63
    go_wp2
    all_goals (go_ret; exact ⟨by rfl, rfl⟩)
  · rw [decide_eq_false h, Bool.false_and]
    go_enter Try.func63, Try.ntmps63
    go_wp2
    all_goals (go_ret; exact ⟨rfl, rfl⟩)

theorem xor_one (a : Nat) : a ^^^ 1 = rev a := by
  have h1 : (a ^^^ 1) / 2 = a / 2 := by rw [Nat.xor_div_two]; exact Nat.xor_zero _
  have h2 : (a ^^^ 1) % 2 = (a + 1) % 2 := by
    have h := Nat.testBit_xor a 1 0
    rw [Nat.testBit_zero, Nat.testBit_zero, Nat.testBit_zero] at h
    rcases Nat.mod_two_eq_zero_or_one a with e | e
    · rw [e] at h; have : (a ^^^ 1) % 2 = 1 := by simpa using h
      omega
    · rw [e] at h; have h9 : ¬ (a ^^^ 1) % 2 = 1 := by intro h8; rw [h8] at h; revert h; decide
      have := Nat.mod_two_eq_zero_or_one (a ^^^ 1)
      omega
  unfold rev
  split <;> omega
theorem bits_rev (a : Nat) (ha : a < 1000000) : bits .xor .i64 (a : Int) 1 = ((rev a : Nat) : Int) := by
  have hr : rev a < 1000001 := by unfold rev; split <;> omega
  have h1 : (BitVec.ofInt 64 (a : Int)).toNat = a := by
    rw [BitVec.ofInt_natCast, BitVec.toNat_ofNat]; exact Nat.mod_eq_of_lt (by omega)
  show IntKind.i64.wrap ((BitVec.ofInt 64 (a : Int) ^^^ BitVec.ofInt 64 (1 : Int)).toNat : Int) = _
  rw [BitVec.toNat_xor, h1]
  have h2 : (BitVec.ofInt 64 (1 : Int)).toNat = 1 := by decide
  rw [h2, xor_one]
  exact IntWalk.i64_in _ (by omega)
theorem reverse_any (j : Nat) (W : World) (hj : j < 1000000) : Calls Try.prog 83 #[.int .i64 j] W fun e W' => e = .returned (.int .i64 (rev j : Nat)) ∧ W = W' := by
  have hb := bits_rev j hj
  go_enter Try.func83, Try.ntmps83
  go_wp2
  go_ret
  exact ⟨by simp, rfl⟩

set_option maxRecDepth 100000 in
theorem end_any (s t : Int) (AV SV : Value) (a : Ar) (N : Nat) (M : Int) (j : Nat) (W : World) (hA : Al W AV a) (hO : a.Ok N M) (hj : j < 2 * a.n) (hn : a.n ≤ 1000) :
    Calls Try.prog 88 #[.agg #[.int .i64 s, .int .i64 t, AV, SV], .int .i64 j] W fun e W' => e = .returned (.int .i64 (a.nw.hd j : Nat)) ∧ Ext W W' := by
  obtain ⟨A, c, rfl, h1, h2, h3⟩ := hA
  obtain ⟨b, off, rfl, hb, hc⟩ := h3 (by omega)
  obtain ⟨k, hk⟩ : ∃ k, k = j / 2 := ⟨_, rfl⟩
  have hkn : k < a.n := by omega
  obtain ⟨c1, c2, c3⟩ := hc k hkn
  have f0 := hO.f0 k hkn; have t0 := hO.t0 k hkn
  have hv : (a.nw.hd j : Int) = if j % 2 = 0 then a.t k else a.f k := by
    unfold Nw.hd Ar.nw
    rw [← hk]
    split
    · show ((a.t k).toNat : Int) = _; omega
    · show ((a.f k).toNat : Int) = _; omega
  have d1 : (j : Int).tdiv 2 = k := by rw [Int.tdiv_eq_ediv_of_nonneg (by omega)]; omega
  have d2 : (j : Int) / 2 = k := by omega
  rw [hv]
  clear hv hO hc h3
  obtain ⟨fk, hfk⟩ : ∃ x, x = a.f k := ⟨_, rfl⟩
  obtain ⟨tk, htk⟩ : ∃ x, x = a.t k := ⟨_, rfl⟩
  obtain ⟨ck, hck⟩ : ∃ x, x = a.c k := ⟨_, rfl⟩
  rw [← hfk] at c1 f0; rw [← htk] at c2 t0; rw [← hck] at c3
  rw [← hfk, ← htk]
  clear hfk htk hck
  have m1 : ((j : Int).tmod 2 = 0 ∧ j % 2 = 0) ∨ ((j : Int).tmod 2 = 1 ∧ ¬ j % 2 = 0) := by rw [Int.tmod_eq_emod_of_nonneg (by omega)]; omega
  have k3 : (k : Int) < a.n := by omega
  clear hk d2
  rcases m1 with ⟨m1, m2⟩ | ⟨m1, m2⟩
  · rw [if_pos m2]
    clear m2
    go_enter Try.func88, Try.ntmps88
    go_wp2
    go_ret
    exact ⟨rfl, al2 W _ _⟩
  · rw [if_neg m2]
    clear m2
    go_enter Try.func88, Try.ntmps88
    go_wp2
    go_ret
    exact ⟨rfl, al2 W _ _⟩
end Go.Proofs.Ytilcbbdmenknfaa
