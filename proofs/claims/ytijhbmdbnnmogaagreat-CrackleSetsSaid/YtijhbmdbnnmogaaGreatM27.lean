/- FromInt's words lie in a block of their own. · Rows of whole numbers that grow. -/
import Derived.Test.YtijhbmdbnnmogaaGreatM26
import Derived.Test.YtijhbmdbnnmogaaGreatM5
namespace Go.Proofs.YtijhbmdbnnmogaaGreat.G
open Go.RowKit

/-- a number, its words (if it has any) in a block of the call's own -/
def RetF (w : World) (z : Int) (e : Ending) (w' : World) : Prop := ∃ b A n c, e = .returned (.agg #[.bool b, .slice A n c]) ∧ ZV w' (.agg #[.bool b, .slice A n c]) z ∧ Below w.heap.size w w' ∧ ∀ g o m, A = some ⟨g, o, m⟩ → w.heap.size ≤ g
set_option maxRecDepth 100000 in
theorem intOfF_zero (a : Value) (w : World) (ha : ZV w a 0) : Calls Tryz.prog 118 #[a] w (RetF w 0) := by
  obtain ⟨A, n, c, rfl, -, -, -⟩ := ha.open_
  obtain ⟨p, hp⟩ : ∃ p, p = decide ((0 : Int) < 0) := ⟨_, rfl⟩
  rw [← hp] at ha ⊢
  clear hp
  have Ha := Lib.hid ha; clear ha
  go_enter Tryz.func118, Tryz.ntmps118
  go_wp2_with fail
  have hb2 := below2 w (Obj.cells #[.bool p, .slice A n c] 152) (Obj.cells #[.bool false, .slice none 0 0] 56)
  refine (signZ_any 0 _ _ (Ha.out.below hb2)).mono ?_
  rintro e w1 ⟨rfl, hb1⟩
  rw [Int.sign_zero]
  have hR := (RB.b2 w false none 0 0 56 (Obj.cells #[.bool p, .slice A n c] 152)).below hb1 (by simp)
  obtain ⟨a0, A0, n0, c0, k10, k11, k20, k21⟩ := hR.facts
  have s0 := hR.set0 false (.slice none 0 0)
  have s1 := hR.set1 false (.slice none 0 0)
  have hb := below_set2 (g := w.heap.size + 1) (i := 0) (j := 1) (hb2.trans (hb1.mono (by simp; omega))) (by omega) (.bool false) (.slice none 0 0)
  have Hb := Lib.hid hb; clear hb hb1 hb2 hR
  go_wp2
  exact bodyPost_ret (v := .agg #[.bool false, .slice none 0 0]) (by simp [results, Tryz.results118, go_sem, s0, s1]) rfl ⟨_, _, _, _, rfl, ZV.mk (by simp) (by rw [Int.natAbs_zero, dig_zero]; exact Wd.nil_ _), Hb.out, fun _ _ _ h => by cases h⟩

set_option maxRecDepth 100000 in
theorem intOfF_ne (z : Int) (a : Value) (w : World) (ha : ZV w a z) (hz : z ≠ 0) (hlen : (dig z.natAbs).length ≤ 1000000) : Calls Tryz.prog 118 #[a] w (RetF w z) := by
  obtain ⟨A, n, c, rfl, hv, hn, -⟩ := ha.open_
  have hnp : 0 < n := by rw [hn]; exact dig_len_pos.2 (by omega)
  obtain ⟨A', c', he, -, -, hok, hcells⟩ := hv
  injection he with e1 e2 e3
  subst e1 e3
  obtain ⟨b, off, rfl, hbl, hc⟩ := hcells (by rw [← e2]; exact hnp)
  clear e2
  obtain ⟨p, hp⟩ : ∃ p, p = decide (z < 0) := ⟨_, rfl⟩
  rw [← hp] at ha ⊢
  obtain ⟨l, hl⟩ : ∃ l, l = dig z.natAbs := ⟨_, rfl⟩
  rw [← hl] at hn hok hc hlen
  have hn6 : n ≤ 1000000 := by omega
  have Ha := Lib.hid ha; clear ha
  have Hc := Lib.hid hc; clear hc
  have Hp := Lib.hid hp; clear hp
  have Hn := Lib.hid hn; clear hn hlen hcells
  have Hl := Lib.hid hl; clear hl
  go_enter Tryz.func118, Tryz.ntmps118
  go_wp2_with fail
  have hb2 := below2 w (Obj.cells #[.bool p, .slice (some ⟨b, off, none⟩) n c] 152) (Obj.cells #[.bool false, .slice none 0 0] 56)
  have o10 := RB.b1 w p (some ⟨b, off, none⟩) n c 152 (Obj.cells #[.bool false, .slice none 0 0] 56)
  refine (signZ_any z _ _ (Ha.out.below hb2)).mono ?_
  rintro e w1 ⟨rfl, hb1⟩
  obtain ⟨sg, hsg⟩ : ∃ sg, sg = z.sign := ⟨_, rfl⟩
  rw [← hsg]
  have hsg0 : (sg == 0) = false := by rw [hsg]; simpa using hz
  clear hsg
  have z1 : w.heap.size + 1 + 1 ≤ w1.heap.size := by have := hb1.size; simpa using this
  have q0 : w1.cell? ⟨w.heap.size, 0, none⟩ = some (.bool p) := keepAt hb1 (by simp <;> omega) (by rw [World.cell?_alloc_past _ _ _ (by simp), World.cell?_alloc_new]; rfl)
  have q1 : w1.cell? ⟨w.heap.size, 1, none⟩ = some (.slice (some ⟨b, off, none⟩) n c) := keepAt hb1 (by simp <;> omega) (by rw [World.cell?_alloc_past _ _ _ (by simp), World.cell?_alloc_new]; rfl)
  have hR1 := (RB.b2 w false none 0 0 56 (Obj.cells #[.bool p, .slice (some ⟨b, off, none⟩) n c] 152)).below hb1 (by simp)
  have hb01 := hb2.trans (hb1.mono (by simp; omega))
  have hmk : ∀ w, (Instr.makeSlice 54 (.int .i64 (n : Int)) (.int .i64 (n : Int))).run Tryz.prog w = .ok (.slice (some ⟨w.heap.size, 0, none⟩) n n) (w.alloc (.cells (U32s (zeros n)) 172)) := fun w => make_u32 54 Tryz.underlying54 n (by omega) w
  have hbk : Blk (w1.alloc (.cells (U32s (zeros n)) 172)) w1.heap.size (zeros n) := heap_alloc_new _ _
  have hb02 : Below w.heap.size w (w1.alloc (.cells (U32s (zeros n)) 172)) := hb01.alloc hb01.size _
  have hcp : ∀ ty, (Builtin.copy_ #[54, 150] ty #[.slice (some ⟨w1.heap.size, 0, none⟩) n n, .slice (some ⟨b, off, none⟩) n c]).run Tryz.prog (w1.alloc (.cells (U32s (zeros n)) 172)) = .ok (.int .i64 n) ((w1.alloc (.cells (U32s (zeros n)) 172)).setRow w1.heap.size (U32s l)) :=
    fun ty => copy_u32 54 150 ty Tryz.underlying54 _ _ n c b off l Hn.out hbk (fun j hj => (hb02.cell (p := ⟨b, off + j, none⟩) hbl).trans (Hc.out j hj))
  have hR2 := (hR1.alloc (.cells (U32s (zeros n)) 172)).setRow (by omega) (U32s l) (h := w1.heap.size)
  have t0 : ((w1.alloc (.cells (U32s (zeros n)) 172)).setRow w1.heap.size (U32s l)).cell? ⟨w.heap.size, 0, none⟩ = some (.bool p) := by rw [cell_setRow (by omega), World.cell?_alloc_past _ _ _ (by omega)]; exact q0
  have t1 : ((w1.alloc (.cells (U32s (zeros n)) 172)).setRow w1.heap.size (U32s l)).cell? ⟨w.heap.size, 1, none⟩ = some (.slice (some ⟨b, off, none⟩) n c) := by rw [cell_setRow (by omega), World.cell?_alloc_past _ _ _ (by omega)]; exact q1
  have u0 : (w1.alloc (.cells (U32s (zeros n)) 172)).cell? ⟨w.heap.size, 0, none⟩ = some (.bool p) := by rw [World.cell?_alloc_past _ _ _ (by omega)]; exact q0
  have u1 : (w1.alloc (.cells (U32s (zeros n)) 172)).cell? ⟨w.heap.size, 1, none⟩ = some (.slice (some ⟨b, off, none⟩) n c) := by rw [World.cell?_alloc_past _ _ _ (by omega)]; exact q1
  have hnl := Hn.out
  have hw := (hbk.setRow (l' := l)).wd hok (by omega) n (by omega) (by omega)
  rw [← hnl] at hw
  have hb03 : Below w.heap.size w ((w1.alloc (.cells (U32s (zeros n)) 172)).setRow w1.heap.size (U32s l)) := below_setRow hb02 hb01.size _
  obtain ⟨a0, A0, n0, c0, k10, k11, k20, k21⟩ := hR2.facts
  have s0 := hR2.set0 p (.slice (some ⟨w1.heap.size, 0, none⟩) n n)
  have s1 := hR2.set1 p (.slice (some ⟨w1.heap.size, 0, none⟩) n n)
  have fin := And.intro (hw.rb hR2 (.bool p) (.slice (some ⟨w1.heap.size, 0, none⟩) n n)) (below_set2 (g := w.heap.size + 1) (i := 0) (j := 1) hb03 (by omega) (.bool p) (.slice (some ⟨w1.heap.size, 0, none⟩) n n))
  have Fin := Lib.hid fin
  clear fin hw hb03 hR2 hbk hb02 hb01 hR1 hb1 hb2 o10 hnl
  go_wp2
  refine bodyPost_ret (v := .agg #[.bool p, .slice (some ⟨w1.heap.size, 0, none⟩) n n]) (by simp [results, Tryz.results118, go_sem, s0, s1]) rfl ⟨_, _, _, _, rfl, ZV.mk Hp.out ?_, Fin.out.2, fun g o m h => by injection h with h; injection h with h; omega⟩
  rw [← Hl.out]
  exact Fin.out.1
theorem intOfF_any (z : Int) (a : Value) (w : World) (ha : ZV w a z) (hlen : (dig z.natAbs).length ≤ 1000000) : Calls Tryz.prog 118 #[a] w (RetF w z) := by
  by_cases hz : z = 0
  · subst hz; exact intOfF_zero a w ha
  · exact intOfF_ne z a w ha hz hlen

set_option maxRecDepth 100000 in
theorem fromIntF_any (n : Int) (w : World) (h1 : -9223372036854775808 ≤ n) (h2 : n ≤ 9223372036854775807) : Calls Tryz.prog 56 #[.int .i64 n] w (RetF w n) := by
  have hlen := int_len h1 h2
  have Hlen := Lib.hid hlen; clear hlen
  go_enter Tryz.func56, Tryz.ntmps56
  go_wp2_with fail
  have hb0 := below1 w (Obj.cells #[.bool false, .slice none 0 0] 56)
  refine (asAgg (smallE_any n _ h1 h2)).mono ?_
  rintro e w1 ⟨b4, A4, n4, c4, rfl, hr, hb1⟩
  have hR1 := Lib.hid ((RB.c1 w false none 0 0 56).below hb1 (by simp))
  have hb01 := Lib.hid (hb0.trans (hb1.mono (by simp)))
  have Hr := Lib.hid hr; clear hr hb0 hb1
  go_wp2_with fail
  refine (intOfF_any n _ _ Hr.out (by have := Hlen.out; omega)).mono ?_
  rintro e w2 ⟨b5, A5, n5, c5, rfl, hr5, hb2, hfr⟩
  have HS := Lib.hid (And.intro hb01.out.size hfr)
  clear hfr
  have hR := hR1.out.below hb2 hR1.out.lt
  obtain ⟨a0, A0, n0, c0, k10, k11, k20, k21⟩ := hR.facts
  have s0 := hR.set0 b5 (.slice A5 n5 c5)
  have s1 := hR.set1 b5 (.slice A5 n5 c5)
  have fin := And.intro (hr5.rb hR (.bool b5) (.slice A5 n5 c5)) (below_set2 (g := w.heap.size) (i := 0) (j := 1) (hb01.out.trans (hb2.mono hb01.out.size)) (Nat.le_refl _) (.bool b5) (.slice A5 n5 c5))
  have hz1 : w.heap.size ≤ w1.heap.size := HS.out.1
  have HF := Lib.hid (And.intro hz1 HS.out.2)
  have Fin := Lib.hid fin; clear fin hb2 hR hz1
  go_wp2
  exact bodyPost_ret (v := .agg #[.bool b5, .slice A5 n5 c5]) (by simp [results, Tryz.results56, go_sem, s0, s1]) rfl ⟨_, _, _, _, rfl, Fin.out.1, Fin.out.2, fun g o m h => Nat.le_trans HF.out.1 (HF.out.2 g o m h)⟩
/-- FromInt: the words lie behind all that was there -/
theorem zfromF_any (z : Int) (w : World) (h1 : -9223372036854775808 ≤ z) (h2 : z ≤ 9223372036854775807) :
    Calls Tryz.prog 56 #[.int .i64 z] w fun e w' => ∃ b A n c, e = .returned (.agg #[.bool b, .slice A n c]) ∧ Zv w' b A n c z ∧ Ext w w' ∧ ∀ g o m, A = some ⟨g, o, m⟩ → w.heap.size ≤ g := by
  refine (fromIntF_any z w h1 h2).mono ?_
  rintro e w' ⟨b, A, n, c, rfl, hz, hb, hf⟩
  exact ⟨b, A, n, c, rfl, hz, hb, hf⟩
end Go.Proofs.YtijhbmdbnnmogaaGreat.G
namespace Go.Proofs.YtijhbmdbnnmogaaGreat.G
open Go.RowKit

set_option maxRecDepth 100000 in
theorem info56 : (Tryz.prog.info? 56).map (fun i => (i.zero, i.size, i.bytes)) = some (some (.agg #[.bool false, .slice none 0 0]), 2, 32) := by kernel_rfl
set_option maxRecDepth 100000 in
theorem info88 : (Tryz.prog.info? 88).map (fun i => (i.zero, i.size, i.bytes)) = some (some (.slice none 0 0), 1, 24) := by kernel_rfl

theorem Zv.grow {w w' : World} {r : Option Nat} {p : Bool} {A : Option Addr} {n c : Nat} {z : Int} (h : Zv w p A n c z) (g : w.grownBy w' r) (hne : 0 < n → ∀ b o m, A = some ⟨b, o, m⟩ → r ≠ some b) : Zv w' p A n c z := by
  obtain ⟨v, e, A', c', rfl, h1, h2, h3, h4⟩ := h
  injection e with e
  have e1 : #[Value.bool p, Value.slice A n c] = #[Value.bool (decide (z < 0)), .slice A' (dig z.natAbs).length c'] := e
  simp at e1
  obtain ⟨rfl, rfl, rfl, rfl⟩ := e1
  refine ⟨_, rfl, A, c, rfl, h1, h2, h3, fun hp => ?_⟩
  obtain ⟨b, off, rfl, hb, hc⟩ := h4 hp
  have hbk := g.block b hb (fun e => hne hp b off none rfl e.symm)
  exact ⟨b, off, rfl, Nat.lt_of_lt_of_le hb g.size, fun j hj => (World.cell?_of_block (a := ⟨b, off + j, none⟩) hbk).trans (hc j hj)⟩
theorem Zv.lt {w : World} {p : Bool} {A : Option Addr} {n c : Nat} {z : Int} (h : Zv w p A n c z) : 0 < n → ∀ b o m, A = some ⟨b, o, m⟩ → b < w.heap.size := by
  intro hn b o m e
  obtain ⟨-, A', c', e1, -, -, -, h4⟩ := h.parts
  injection e1 with e1 e2 e3
  subst e1
  obtain ⟨b', off, e4, hb, -⟩ := h4 (by omega)
  rw [e] at e4
  injection e4 with e4
  injection e4 with e4
  subst e4
  exact hb

/-- a number whose words lie apart from two slices -/
def Nb (w : World) (u v : Value) (p : Bool) (A : Option Addr) (n c : Nat) (z : Int) : Prop := Zv w p A n c z ∧ (0 < n → ∀ b o m, A = some ⟨b, o, m⟩ → u.ownBlock ≠ some b ∧ v.ownBlock ≠ some b)
theorem Nb.ext {w w' : World} {u v : Value} {p : Bool} {A : Option Addr} {n c : Nat} {z : Int} (h : Nb w u v p A n c z) (e : Ext w w') : Nb w' u v p A n c z := ⟨h.1.ext e, h.2⟩
/-- a row of numbers of the call's own: k of them -/
def Rw (w : World) (base : Nat) (q v : Value) (k : Nat) (x : Nat → Int) : Prop :=
  ∃ xs : List Value, w.ownsRow base 56 2 q k xs ∧ ∀ j, j < k → ∃ p A n c, xs[2 * j]? = some (.bool p) ∧ xs[2 * j + 1]? = some (.slice A n c) ∧ Nb w q v p A n c (x j)
section
variable {w w' : World} {base : Nat} {q v : Value} {k : Nat} {x : Nat → Int}
theorem Rw.nil (w : World) (base : Nat) (v : Value) (x : Nat → Int) : Rw w base (.slice none 0 0) v 0 x := ⟨[], World.ownsRow_nil _ _ _ _, fun j h => by omega⟩
theorem Rw.ext (h : Rw w base q v k x) (e : Ext w w') : Rw w' base q v k x := by
  obtain ⟨xs, h1, h2⟩ := h
  refine ⟨xs, World.ownsRow.ext h1 e, fun j hj => ?_⟩
  obtain ⟨p, A, n, c, e1, e2, e3⟩ := h2 j hj
  exact ⟨p, A, n, c, e1, e2, e3.ext e⟩
theorem Rw.lt (h : Rw w base q v k x) : ∀ b, q.ownBlock = some b → base ≤ b ∧ b < w.heap.size := by
  obtain ⟨xs, h1, -⟩ := h
  exact fun b hb => World.ownsRow.lt h1 b hb
theorem Rw.congr {y : Nat → Int} (h : Rw w base q v k x) (e : ∀ j, j < k → x j = y j) : Rw w base q v k y := by
  obtain ⟨xs, h1, h2⟩ := h
  refine ⟨xs, h1, fun j hj => by rw [← e j hj]; exact h2 j hj⟩
/-- one number more -/
theorem Rw.push {q' : Value} {p : Bool} {A : Option Addr} {n c : Nat} {xs : List Value} (h1 : w.ownsRow base 56 2 q k xs) (h2 : ∀ j, j < k → ∃ p A n c, xs[2 * j]? = some (.bool p) ∧ xs[2 * j + 1]? = some (.slice A n c) ∧ Nb w q v p A n c (x j))
    (hz : Nb w q v p A n c (x k)) (o : w'.ownsRow base 56 2 q' (k + 1) (xs ++ [.bool p, .slice A n c])) (g : w.grownBy w' q.ownBlock) (a : q'.ownBlock = q.ownBlock ∨ q'.ownBlock = some w.heap.size) : Rw w' base q' v (k + 1) x := by
  have key : ∀ {p A n c z}, Nb w q v p A n c z → Nb w' q' v p A n c z := fun {p A n c z} h => by
    refine ⟨h.1.grow g (fun hn b o m e => (h.2 hn b o m e).1), fun hn b o m e => ⟨?_, (h.2 hn b o m e).2⟩⟩
    rcases a with a | a
    · rw [a]; exact (h.2 hn b o m e).1
    · rw [a]; intro e2; injection e2 with e2
      have := h.1.lt hn b o m e
      omega
  have hl : xs.length = k * 2 := h1.1
  refine ⟨_, o, fun j hj => ?_⟩
  by_cases e : j = k
  · subst e
    exact ⟨p, A, n, c, by rw [List.getElem?_append_right (by omega), show 2 * j - xs.length = 0 by omega]; rfl, by rw [List.getElem?_append_right (by omega), show 2 * j + 1 - xs.length = 1 by omega]; rfl, key hz⟩
  · obtain ⟨p', A', n', c', e1, e2, e3⟩ := h2 j (by omega)
    exact ⟨p', A', n', c', by rw [List.getElem?_append_left (by omega)]; exact e1, by rw [List.getElem?_append_left (by omega)]; exact e2, key e3⟩
/-- the other slice grew -/
theorem Rw.far {v' : Value} (h : Rw w base q v k x) (g : w.grownBy w' v.ownBlock) (hq : ∀ b, q.ownBlock = some b → v.ownBlock ≠ some b) (a : v'.ownBlock = v.ownBlock ∨ v'.ownBlock = some w.heap.size) : Rw w' base q v' k x := by
  obtain ⟨xs, h1, h2⟩ := h
  refine ⟨xs, ownsRow_far h1 g hq, fun j hj => ?_⟩
  obtain ⟨p, A, n, c, e1, e2, e3⟩ := h2 j hj
  refine ⟨p, A, n, c, e1, e2, e3.1.grow g (fun hn b o m e => (e3.2 hn b o m e).2), fun hn b o m e => ⟨(e3.2 hn b o m e).1, ?_⟩⟩
  rcases a with a | a
  · rw [a]; exact (e3.2 hn b o m e).2
  · rw [a]; intro e4; injection e4 with e4
    have := e3.1.lt hn b o m e
    omega
end

/-- i rows of N numbers, the slices in a row of their own -/
structure Rs (w : World) (base : Nat) (q : Value) (i N : Nat) (gb cp : Nat → Nat) (M : Nat → Nat → Int) : Prop where
  own : w.ownsRow base 88 1 q i ((List.range i).map fun a => Value.slice (some ⟨gb a, 0, none⟩) N (cp a))
  row : ∀ a, a < i → Rw w base (.slice (some ⟨gb a, 0, none⟩) N (cp a)) q N (M a)
  ne : ∀ a, a < i → q.ownBlock ≠ some (gb a)
  inj : ∀ a b, a < i → b < i → gb a = gb b → a = b
section
variable {w w' : World} {base : Nat} {q : Value} {i N : Nat} {gb cp : Nat → Nat} {M : Nat → Nat → Int}
theorem Rs.ext (h : Rs w base q i N gb cp M) (e : Ext w w') : Rs w' base q i N gb cp M := ⟨World.ownsRow.ext h.own e, fun a ha => (h.row a ha).ext e, h.ne, h.inj⟩
theorem Rs.lt (h : Rs w base q i N gb cp M) {a : Nat} (ha : a < i) : base ≤ gb a ∧ gb a < w.heap.size := (h.row a ha).lt (gb a) rfl
theorem Rs.nil (w : World) (base N : Nat) (gb cp : Nat → Nat) (M : Nat → Nat → Int) : Rs w base (.slice none 0 0) 0 N gb cp M := ⟨World.ownsRow_nil _ _ _ _, fun a h => by omega, fun a h => by omega, fun a b h => by omega⟩
theorem Rs.push {q' : Value} {g c : Nat} (h : Rs w base q i N gb cp M) (hr : Rw w base (.slice (some ⟨g, 0, none⟩) N c) q N (M i)) (hq : q.ownBlock ≠ some g) (hi : ∀ a, a < i → gb a ≠ g)
    (o : w'.ownsRow base 88 1 q' (i + 1) (((List.range i).map fun a => Value.slice (some ⟨gb a, 0, none⟩) N (cp a)) ++ [.slice (some ⟨g, 0, none⟩) N c])) (gr : w.grownBy w' q.ownBlock) (a : q'.ownBlock = q.ownBlock ∨ q'.ownBlock = some w.heap.size) :
    Rs w' base q' (i + 1) N (up gb i g) (up cp i c) M := by
  have hrl : base ≤ g ∧ g < w.heap.size := hr.lt g rfl
  have hup : ∀ j, j < i + 1 → (j < i ∧ up gb i g j = gb j ∧ up cp i c j = cp j) ∨ (j = i ∧ up gb i g j = g ∧ up cp i c j = c) := fun j hj => by
    by_cases e : j = i
    · subst e; exact .inr ⟨rfl, up_self _ _ _, up_self _ _ _⟩
    · exact .inl ⟨by omega, up_ne _ _ e, up_ne _ _ e⟩
  refine ⟨?_, fun j hj => ?_, fun j hj => ?_, fun j l hj hl e => ?_⟩
  · have e : ((List.range (i + 1)).map fun a => Value.slice (some ⟨up gb i g a, 0, none⟩) N (up cp i c a)) = ((List.range i).map fun a => Value.slice (some ⟨gb a, 0, none⟩) N (cp a)) ++ [.slice (some ⟨g, 0, none⟩) N c] := by
      rw [List.range_succ, List.map_append]
      congr 1
      · refine List.map_congr_left fun j hj => ?_
        have hj := List.mem_range.1 hj
        rw [up_ne _ _ (show j ≠ i by omega), up_ne _ _ (show j ≠ i by omega)]
      · simp [up_self]
    rw [e]; exact o
  · rcases hup j hj with ⟨h1, e1, e2⟩ | ⟨rfl, e1, e2⟩
    · rw [e1, e2]; exact (h.row j h1).far gr (fun b hb e => h.ne j h1 (by rw [e]; injection hb with hb; rw [← hb])) a
    · rw [e1, e2]; exact hr.far gr (fun b hb e => hq (by rw [e]; injection hb with hb; rw [← hb])) a
  · rcases hup j hj with ⟨h1, e1, e2⟩ | ⟨rfl, e1, e2⟩
    · rw [e1]
      rcases a with a | a
      · rw [a]; exact h.ne j h1
      · rw [a]; intro e; injection e with e; have := (h.lt h1).2; omega
    · rw [e1]
      rcases a with a | a
      · rw [a]; exact hq
      · rw [a]; intro e; injection e with e; omega
  · rcases hup j hj with ⟨h1, e1, -⟩ | ⟨h1, e1, -⟩ <;> rcases hup l hl with ⟨h2, e2, -⟩ | ⟨h2, e2, -⟩
    · rw [e1, e2] at e; exact h.inj j l h1 h2 e
    · rw [e1, e2] at e; exact absurd e (hi j h1)
    · rw [e1, e2] at e; exact absurd e.symm (hi l h2)
    · omega
/-- they are the matrix that determinant wants -/
theorem Rs.zg (h : Rs w base q N N gb cp M) (hN : 0 < N) : ∃ tb c, q = .slice (some ⟨tb, 0, none⟩) N c ∧ N ≤ c ∧ c ≤ 9223372036854775807 ∧ Zg w tb 0 N gb cp M := by
  obtain ⟨-, ⟨-, h2⟩ | ⟨tb, cap, cur, rfl, hb, hh, h5, h6, h7, h8⟩⟩ := h.own
  · omega
  have hel : ∀ i, i < N → (N ≤ cp i ∧ cp i ≤ 9223372036854775807) ∧ (∀ o, w.frozen? ⟨gb i, o, none⟩ = false) ∧ ∀ j, j < N → ∃ p A n c, w.cell? ⟨gb i, j * 2, none⟩ = some (.bool p) ∧ w.cell? ⟨gb i, j * 2 + 1, none⟩ = some (.slice A n c) ∧ Zv w p A n c (M i j) := fun i hi => by
    obtain ⟨xs, ⟨-, ⟨e, -⟩ | ⟨g, cap', cur', e, k1, k2, k3, k4, k5, k6⟩⟩, hx⟩ := h.row i hi
    · cases e
    · injection e with e e' e''
      injection e with e
      injection e with e
      subst e e''
      refine ⟨⟨k3, by unfold maxLen at k4; omega⟩, fun o => by simp [World.frozen?, k2], fun j hj => ?_⟩
      obtain ⟨p, A, n, c, e1, e2, e3⟩ := hx j hj
      rw [← k6, List.getElem?_take, if_pos (by omega)] at e1 e2
      refine ⟨p, A, n, c, ?_, ?_, e3.1⟩
      · rw [cell_of_row w (gb i) _ cur' 56 (0, 0) k2, Nat.mul_comm]; simpa using e1
      · rw [cell_of_row w (gb i) _ cur' 56 (0, 0) k2, Nat.mul_comm]; simpa using e2
  refine ⟨tb, cap, rfl, h5, by unfold maxLen at h6; omega, fun i hi => ?_, fun i hi => (hel i hi).1, fun i j hi hj => (hel i hi).2.2 j hj, fun i o hi => (hel i hi).2.1 o, h.inj, fun i hi e => h.ne i hi (by rw [e]; rfl), fun i hi => (h.lt hi).2, fun _ => (Array.getElem?_eq_some_iff.1 hh).1⟩
  rw [Nat.zero_add, cell_of_row w tb _ cur 88 (0, 0) hh]
  have h9 : ((List.range N).map fun a => Value.slice (some ⟨gb a, 0, none⟩) N (cp a))[i]? = some (.slice (some ⟨gb i, 0, none⟩) N (cp i)) := by rw [List.getElem?_map, List.getElem?_range hi]; rfl
  rw [← h8, List.getElem?_take, if_pos (by omega)] at h9
  simpa using h9
end
end Go.Proofs.YtijhbmdbnnmogaaGreat.G
