/- Flows and sides by tests: mathematics. · Walks: cost, isSide, isFlow. · Walks: Clone and few of a slice of numbers, areCosts. · Walks: isCloth. · What comes in: a cloth. · Walks: the law's cloth. -/
import Derived.Test.YtilcbbdmenknfabM9
import Derived.Lib.MinMax
import Derived.Lib.SliceRun
import Derived.RegionTactic
import Derived.ChangeAlike
namespace Go.Proofs.Ytilcbbdmenknfab

/-- does the flow of arc k fit? -/
def inR (a : Ar) (f : Nat → Int) (k : Nat) : Bool := bw (f k) 0 (a.c k)
/-- is it a flow? -/
def isFlB (N : Nat) (a : Ar) (f : Nat → Int) : Bool := (List.range a.n).all (inR a f) && (List.range (N - 2)).all fun i => decide (a.nw.sp f (i + 1) = 0)
theorem isFlB_iff {N : Nat} {a : Ar} {f : Nat → Int} : isFlB N a f = true ↔ (∀ k, k < a.n → 0 ≤ f k ∧ f k ≤ a.c k) ∧ ∀ i, i < N - 2 → a.nw.sp f (i + 1) = 0 := by
  unfold isFlB
  rw [Bool.and_eq_true, List.all_eq_true, List.all_eq_true]
  constructor
  · rintro ⟨h1, h2⟩
    exact ⟨fun k hk => bw_iff.1 (h1 k (List.mem_range.2 hk)), fun i hi => by simpa using h2 i (List.mem_range.2 hi)⟩
  · rintro ⟨h1, h2⟩
    exact ⟨fun k hk => bw_iff.2 (h1 k (List.mem_range.1 hk)), fun i hi => by simpa using h2 i (List.mem_range.1 hi)⟩
theorem isFlB_fl {N : Nat} {a : Ar} {f : Nat → Int} (hN : 2 ≤ N) : isFlB N a f = true ↔ a.nw.Fl N 0 (N - 1) f := by
  rw [isFlB_iff]
  constructor
  · rintro ⟨h1, h2⟩
    refine ⟨fun k hk => (h1 k hk).1, fun k hk => (h1 k hk).2, fun v hv h3 h4 => ?_⟩
    have := h2 (v - 1) (by omega)
    rwa [show v - 1 + 1 = v by omega] at this
  · rintro ⟨h1, h2, h3⟩
    exact ⟨fun k hk => ⟨h1 k hk, h2 k hk⟩, fun i hi => h3 (i + 1) (by omega) (by omega) (by omega)⟩
theorem isFlB_no1 {N : Nat} {a : Ar} {f : Nat → Int} {k : Nat} (hk : k < a.n) (h : inR a f k = false) : isFlB N a f = false := by
  cases hv : isFlB N a f
  · rfl
  · have := (isFlB_iff.1 hv).1 k hk
    rw [show inR a f k = true from bw_iff.2 this] at h; cases h
theorem isFlB_no2 {N : Nat} {a : Ar} {f : Nat → Int} {i : Nat} (hi : i < N - 2) (h : a.nw.sp f (i + 1) ≠ 0) : isFlB N a f = false := by
  cases hv : isFlB N a f
  · rfl
  · exact absurd ((isFlB_iff.1 hv).2 i hi) h
/-- one term of a cost -/
def tc (a : Ar) (s : Nat → Bool) (k : Nat) : Int := if s (a.f k).toNat = true ∧ s (a.t k).toNat = false then a.c k else 0
theorem ct_tc (a : Ar) (s : Nat → Bool) : a.nw.ct s = sm a.n (tc a s) := rfl
/-- is it a side? -/
def isSdB (N : Nat) (s : Nat → Bool) : Bool := s 0 && !s (N - 1)
theorem isSdB_iff {N : Nat} {s : Nat → Bool} : isSdB N s = true ↔ Nw.Sd 0 (N - 1) s := by unfold isSdB Nw.Sd; simp
/-- what Check answers -/
def chB (N : Nat) (a : Ar) (f : Nat → Int) (s : Nat → Bool) : Bool := isFlB N a f && isSdB N s && decide (a.nw.sp f 0 = a.nw.ct s)
/-- the answer of Check for a flow of n numbers and a side of m flags -/
def Chk (N : Int) (a : Ar) (n m : Nat) (f : Nat → Int) (s : Nat → Bool) (b : Bool) (er : Int) : Prop :=
  (vNet N a = false ∧ b = false ∧ er = 2) ∨ (vNet N a = true ∧ ((n ≠ a.n ∨ (m : Int) ≠ N) ∧ b = false ∧ er = 3 ∨ n = a.n ∧ (m : Int) = N ∧ b = chB m a f s ∧ er = 0))
theorem Chk.one {N : Int} {a : Ar} {n m : Nat} {f : Nat → Int} {s : Nat → Bool} {b c : Bool} {x y : Int} (h : Chk N a n m f s b x) (k : Chk N a n m f s c y) : b = c ∧ x = y := by
  rcases h with ⟨h1, h2, h3⟩ | ⟨h1, ⟨h4, h2, h3⟩ | ⟨h4, h5, h2, h3⟩⟩ <;> rcases k with ⟨k1, k2, k3⟩ | ⟨k1, ⟨k4, k2, k3⟩ | ⟨k4, k5, k2, k3⟩⟩
  · exact ⟨by rw [h2, k2], by omega⟩
  · rw [h1] at k1; cases k1
  · rw [h1] at k1; cases k1
  · rw [h1] at k1; cases k1
  · exact ⟨by rw [h2, k2], by omega⟩
  · rcases h4 with h4 | h4 <;> omega
  · rw [h1] at k1; cases k1
  · rcases k4 with k4 | k4 <;> omega
  · exact ⟨by rw [h2, k2], by omega⟩
end Go.Proofs.Ytilcbbdmenknfab
namespace Go.Proofs.Ytilcbbdmenknfab
open Go.RowKit

theorem Vl.at {W X : World} {A : Option Addr} {n m c : Nat} {f : Nat → Value} (h : Vl W (.slice A n c) m f) (e : Ext W X) {k : Nat} (hk : k < m) : ∃ b off, A = some ⟨b, off, none⟩ ∧ b < X.heap.size ∧ X.cell? ⟨b, off + k, none⟩ = some (f k) := by
  obtain ⟨A', c', e', _, _, h3⟩ := h
  injection e' with e1 e2 e3
  subst e1
  obtain ⟨b, off, rfl, hb, hc⟩ := h3 (by omega)
  exact ⟨b, off, rfl, Nat.lt_of_lt_of_le hb e.size, keepAt e hb (hc k hk)⟩

end Go.Proofs.Ytilcbbdmenknfab
namespace Go.Proofs.Ytilcbbdmenknfab
open Go.RowKit

/-- the list of the first k numbers -/
def nl (k : Nat) (x : Nat → Int) : List Value := (List.range k).map fun j => Value.int .i64 (x j)
theorem nl_get {k j : Nat} (x : Nat → Int) (h : j < k) : (nl k x)[j]? = some (.int .i64 (x j)) := by unfold nl; rw [List.getElem?_map, List.getElem?_range h]; rfl
theorem nl_len (k : Nat) (x : Nat → Int) : (nl k x).length = k := by simp [nl]
theorem shape_own {w : World} {base : Nat} {e : TypeId} {size n : Nat} {v : Value} {xs : List Value} (h : w.ownsRow base e size v n xs) : ∃ A c, v = .slice A n c := by
  obtain ⟨-, ⟨rfl, rfl⟩ | ⟨g, cap, cur, rfl, -⟩⟩ := h
  · exact ⟨_, _, rfl⟩
  · exact ⟨_, _, rfl⟩
theorem own_mono {w : World} {base b' : Nat} {e : TypeId} {size n : Nat} {v : Value} {xs : List Value} (h : w.ownsRow base e size v n xs) (hb : b' ≤ base) : w.ownsRow b' e size v n xs :=
  ⟨h.1, h.2.imp id fun ⟨g, cap, cur, e, hg, rest⟩ => ⟨g, cap, cur, e, Nat.le_trans hb hg, rest⟩⟩
theorem ownsRow_il {w : World} {base n : Nat} {v : Value} {x : Nat → Int} (h : w.ownsRow base 3 1 v n (nl n x)) : Il w v n x := by
  obtain ⟨h1, ⟨rfl, h2⟩ | ⟨g, cap, cur, rfl, hb, hh, h5, h6, h7, h8⟩⟩ := h
  · subst h2
    exact ⟨none, 0, rfl, Nat.le_refl _, by omega, fun h => by omega⟩
  · refine ⟨_, cap, rfl, by omega, by simp only [maxLen] at *; omega, fun hp => ⟨g, 0, rfl, (Array.getElem?_eq_some_iff.1 hh).1, fun j hj => ?_⟩⟩
    rw [Nat.zero_add, cell_of_row w g j cur 3 (0, 0) hh]
    have h11 := nl_get x hj
    rw [← h8, List.getElem?_take, if_pos (by omega)] at h11
    simpa using h11

set_option maxHeartbeats 2000000 in
set_option maxRecDepth 100000 in
theorem clone_any (n : Nat) (x : Nat → Int) (V : Value) (W : World) (hV : Il W V n x) (hn : n ≤ 1000000) :
    Calls Try.prog 20 #[V] W fun e W' => ∃ U, e = .returned U ∧ W'.ownsRow W.heap.size 3 1 U n (nl n x) ∧ Ext W W' := by
  have HV := Lib.hid hV
  obtain ⟨A, c, rfl, hc, hd, hex⟩ := hV
  obtain ⟨i0, hi, hz0, hz1, hz2⟩ := info_parts info3
  have q33 : ∀ (w : World) (a : Option Addr) (n c n' c' : Nat), (binOp .eql 22 (.slice a n c) (.slice none n' c')).run Try.prog w = .ok (.bool a.isNone) w := fun w a n c n' c' => Lib.run_eql_slice_nil w _ _ a n c n' c' Try.underlying22
  cases A with
  | none =>
    obtain rfl : n = 0 := by
      rcases Nat.eq_zero_or_pos n with h | h
      · exact h
      · obtain ⟨b, o, e, -⟩ := hex h; cases e
    clear hex
    go_enter Try.func20, Try.ntmps20
    go_wp2
    go_ret
    exact ⟨_, rfl, World.ownsRow_nil _ _ _ _, Ext.refl _⟩
  | some ad =>
    have hcell : ∀ j u, (nl n x)[j]? = some u → W.cell? (ad.add j) = some u := by
      intro j u hu
      have hj : j < n := by have := (List.getElem?_eq_some_iff.1 hu).1; rw [nl_len] at this; exact this
      obtain ⟨b, o, e, -, hcs⟩ := hex (by omega)
      cases e
      rw [nl_get x hj] at hu
      cases hu
      rw [Addr.add_lit]
      exact hcs j hj
    have HC := Lib.hid hcell
    clear hex hcell
    go_enter Try.func20, Try.ntmps20
    go_wp2_with (at_builtin; refine wpList_append_own _ rfl _ _ 22 rfl W.heap.size 3 i0 (.int .i64 0) 1 8 Try.underlying22 hi hz0 hz1 hz2 rfl (by decide) _ 0 [] rfl (World.ownsRow_lit W #[] 0 (Nat.le_refl _) (Nat.zero_le _) rfl) ad n c (nl n x) rfl ?qc1 ?qc2 ?qc3 ?qc4 ?qc5 ?qc6 ?_)
    case qc1 => rw [nl_len]; omega
    case qc2 =>
      intro j u hj
      exact Lib.cell?_alloc_some _ (HC.out j u hj)
    case qc3 => intro u hu; unfold nl at hu; obtain ⟨y, _, rfl⟩ := List.mem_map.1 hu; rfl
    case qc4 => unfold maxLen; omega
    case qc5 => omega
    case qc6 => simp
    intro v' w1 hown hgrow hnil
    clear hnil
    have hI : w1.ownsRow W.heap.size 3 1 v' n (nl n x) := by simpa using hown
    have hE : Ext W w1 := ⟨hgrow.os, hgrow.tape, hgrow.output, by have h1 := hgrow.size; simp at h1; omega, fun k hk => (hgrow.block k (by simp; omega) (fun e => by simp [Value.ownBlock] at e; omega)).trans (Below.heap_alloc _ _ k hk)⟩
    have HR := Lib.hid (And.intro hI hE)
    clear hI hE hown hgrow
    go_wp2
    go_ret
    exact ⟨v', rfl, HR.out.1, HR.out.2⟩

set_option maxHeartbeats 2000000 in
set_option maxRecDepth 100000 in
theorem few_any (n : Nat) (x : Nat → Int) (V : Value) (W : World) (hV : Il W V n x) :
    Calls Try.prog 11 #[V] W fun e W' => ∃ U, e = .returned U ∧ W'.ownsRow W.heap.size 3 1 U (min n 50) (nl (min n 50) x) ∧ Ext W W' := by
  obtain ⟨A, c, rfl, hc, hd, hex⟩ := hV
  obtain ⟨m, hm⟩ : ∃ m, m = min n 50 := ⟨_, rfl⟩
  have hmi : min (n : Int) 50 = (m : Int) := by omega
  have hml : m ≤ n := by omega
  have hmc : m ≤ c := by omega
  have hm5 : m ≤ 50 := by omega
  have hcut : Il W (.slice A m c) m x := ⟨A, c, rfl, hmc, hd, fun hp => by
    obtain ⟨b, o, e, hb, hcs⟩ := hex (by omega)
    exact ⟨b, o, e, hb, fun j hj => hcs j (by omega)⟩⟩
  have HC := Lib.hid hcut; have HM := Lib.hid hm
  clear hex hcut hm
  go_enter Try.func11, Try.ntmps11
  go_wp2_with fail
  refine (clone_any m x _ _ HC.out (by omega)).mono ?_
  rintro e w1 ⟨U, rfl, hI, hx⟩
  have HR := Lib.hid (And.intro hI hx)
  clear hI hx
  go_wp2
  go_ret
  exact ⟨U, rfl, by rw [← HM.out]; exact HR.out.1, HR.out.2⟩

/-- n costs -/
def okL (n : Nat) (x : Nat → Int) (l : Int) : Bool := decide ((n : Int) = l) && (List.range n).all fun k => bw (x k) 0 1000
theorem okL_iff {n : Nat} {x : Nat → Int} {l : Int} : okL n x l = true ↔ (n : Int) = l ∧ ∀ k, k < n → 0 ≤ x k ∧ x k ≤ 1000 := by
  unfold okL
  rw [Bool.and_eq_true, decide_eq_true_iff, List.all_eq_true]
  exact and_congr_right fun _ => ⟨fun h k hk => bw_iff.1 (h k (List.mem_range.2 hk)), fun h k hk => bw_iff.2 (h k (List.mem_range.1 hk))⟩
theorem okL_no {n : Nat} {x : Nat → Int} {l : Int} (h : ¬ ((n : Int) = l ∧ ∀ k, k < n → 0 ≤ x k ∧ x k ≤ 1000)) : okL n x l = false := by
  cases hv : okL n x l
  · rfl
  · exact absurd (okL_iff.1 hv) h

set_option maxHeartbeats 4000000 in
set_option maxRecDepth 100000 in
theorem areCosts_any (n : Nat) (x : Nat → Int) (l : Int) (V : Value) (W : World) (hV : Il W V n x) :
    Calls Try.prog 18 #[V, .int .i64 l] W fun e W' => e = .returned (.bool (okL n x l)) ∧ Ext W W' := by
  obtain ⟨r, hr⟩ : ∃ r, r = okL n x l := ⟨_, rfl⟩
  rw [← hr]
  have HR := Lib.hid hr; clear hr
  have HV := Lib.hid hV
  obtain ⟨A, c, rfl, hc, hd, -⟩ := hV
  go_enter Try.func18, Try.ntmps18
  by_cases hnl : (n : Int) = l
  · subst hnl
    go_wp2_with fail
    go_loopw [13] (fun i wr => ∃ k : Nat, i = .int .i64 k ∧ k ≤ n ∧ Hid ((∀ j, j < k → 0 ≤ x j ∧ x j ≤ 1000) ∧ Ext W wr)) (fun i _ => n - (intOf i).toNat)
    case atStart => exact ⟨0, rfl, Nat.zero_le _, Lib.hid ⟨fun j hj => by omega, Ext.refl _⟩⟩
    case round =>
      obtain ⟨k, rfl, hk, hin⟩ := hrel
      by_cases hlt : k < n
      · obtain ⟨b1, o1, rfl, -, e1⟩ := Vl.at HV.out hin.out.2 hlt
        obtain ⟨p, hp⟩ : ∃ p, p = x k := ⟨_, rfl⟩
        rw [← hp] at e1
        have HP := Lib.hid hp
        clear hp
        go_wp2_with fail
        refine (isBetween_bw _ _ _ _).mono ?_
        rintro e w1 ⟨rfl, rfl⟩
        cases h1 : bw p 0 1000
        · have hr : r = false := by
            rw [HR.out]
            refine okL_no fun h => ?_
            have h2 := h.2 k hlt
            rw [← HP.out] at h2
            rw [bw_iff.2 h2] at h1
            cases h1
          have HR2 := Lib.hid hr; clear hr h1
          go_wp2
          go_ret
          exact ⟨by rw [HR2.out]; rfl, hin.out.2⟩
        · have h2 := bw_iff.1 h1
          rw [HP.out] at h2
          have H2 := Lib.hid h2
          clear h1 h2
          go_wp2
          go_roundw
          case rel =>
            refine ⟨k + 1, by go_num, by omega, Lib.hid ⟨fun j hj => ?_, hin.out.2⟩⟩
            by_cases e : j = k
            · subst e; exact H2.out
            · exact hin.out.1 j (by omega)
          case measure => simp [intOf]; omega
      · obtain rfl : k = n := by omega
        have hr : r = true := by rw [HR.out]; exact okL_iff.2 ⟨rfl, hin.out.1⟩
        have HR2 := Lib.hid hr; clear hr
        go_wp2
        go_ret
        exact ⟨by rw [HR2.out]; rfl, hin.out.2⟩
  · have hne : ((n : Int) != l) = true := by simp; omega
    have hr : r = false := by rw [HR.out]; exact okL_no fun h => hnl h.1
    have HR2 := Lib.hid hr; clear hr
    go_wp2
    go_ret
    exact ⟨by rw [HR2.out]; rfl, Ext.refl _⟩
end Go.Proofs.Ytilcbbdmenknfab
namespace Go.Proofs.Ytilcbbdmenknfab
open Go.RowKit

/-- a cloth: its measures, its costs of no wax, of wax, of what lies to the right and below -/
structure Cl where
  w : Int
  h : Int
  nb : Nat
  b : Nat → Int
  nx : Nat
  x : Nat → Int
  nr : Nat
  r : Nat → Int
  nd : Nat
  d : Nat → Int
/-- a cloth's value -/
def Kl (W : World) (v : Value) (c : Cl) : Prop := ∃ B X R D, v = .agg #[.int .i64 c.w, .int .i64 c.h, B, X, R, D] ∧ Il W B c.nb c.b ∧ Il W X c.nx c.x ∧ Il W R c.nr c.r ∧ Il W D c.nd c.d
theorem Kl.ext {W X : World} {v : Value} {c : Cl} (h : Kl W v c) (e : Ext W X) : Kl X v c := by
  obtain ⟨B, Y, R, D, rfl, h1, h2, h3, h4⟩ := h
  exact ⟨B, Y, R, D, rfl, h1.ext e, h2.ext e, h3.ext e, h4.ext e⟩
/-- is it a cloth? -/
def vCl (c : Cl) : Bool := bw c.w 1 6 && (bw c.h 1 6 && (okL c.nb c.b (c.w * c.h) && (okL c.nx c.x (c.w * c.h) && (okL c.nr c.r ((c.w - 1) * c.h) && okL c.nd c.d (c.w * (c.h - 1))))))
theorem side_prod {a b m n : Int} (h1 : 0 ≤ a) (h2 : a ≤ m) (h3 : 0 ≤ b) (h4 : b ≤ n) : 0 ≤ a * b ∧ a * b ≤ m * n := ⟨Int.mul_nonneg h1 h3, Int.mul_le_mul h2 h4 h3 (Int.le_trans h1 h2)⟩
theorem six {w : World} {b : Nat} {t : TypeId} {x0 x1 x2 x3 x4 x5 : Value} (h : w.heap[b]? = some (.cells #[x0, x1, x2, x3, x4, x5] t (0, 0))) : w.cell? ⟨b, 0, none⟩ = some x0 ∧ w.cell? ⟨b, 1, none⟩ = some x1 ∧ w.cell? ⟨b, 2, none⟩ = some x2 ∧ w.cell? ⟨b, 3, none⟩ = some x3 ∧ w.cell? ⟨b, 4, none⟩ = some x4 ∧ w.cell? ⟨b, 5, none⟩ = some x5 ∧ b < w.heap.size ∧ ∀ o, w.frozen? ⟨b, o, none⟩ = false :=
  ⟨cell_of_row w b 0 _ _ (0, 0) h, cell_of_row w b 1 _ _ (0, 0) h, cell_of_row w b 2 _ _ (0, 0) h, cell_of_row w b 3 _ _ (0, 0) h, cell_of_row w b 4 _ _ (0, 0) h, cell_of_row w b 5 _ _ (0, 0) h, (Array.getElem?_eq_some_iff.1 h).1, fun o => by simp [World.frozen?, h]⟩

set_option maxHeartbeats 4000000 in
set_option maxRecDepth 100000 in
theorem isCloth_any (c : Cl) (V : Value) (W : World) (hV : Kl W V c) :
    Calls Try.prog 8 #[V] W fun e W' => e = .returned (.bool (vCl c)) ∧ Ext W W' := by
  obtain ⟨y, hy⟩ : ∃ y, y = vCl c := ⟨_, rfl⟩
  rw [← hy]
  have HY := Lib.hid hy; clear hy
  obtain ⟨B, X, R, D, rfl, hB, hX, hR, hD⟩ := hV
  obtain ⟨w, h, nb, b, nx, x, nr, r, nd, d⟩ := c
  dsimp only at hB hX hR hD ⊢
  have HL := Lib.hid (And.intro hB (And.intro hX (And.intro hR hD)))
  go_enter Try.func8, Try.ntmps8
  go_upto_region 1 with fail
  have bb := al1 W (.cells #[.int .i64 w, .int .i64 h, B, X, R, D] 29)
  obtain ⟨m0, m1, m2, m3, m4, m5, mz, -⟩ := six (heap_alloc_new W (.cells #[.int .i64 w, .int .i64 h, B, X, R, D] 29))
  generalize W.alloc (.cells #[.int .i64 w, .int .i64 h, B, X, R, D] 29) = W1 at *
  have HB : Hid (Ext W W1) := Lib.hid bb
  clear bb hB hX hR hD
  go_wp2_with fail
  refine (isBetween_bw _ _ _ _).mono ?_
  rintro e w0 ⟨rfl, rfl⟩
  cases q1 : bw w 1 6
  · have hy : y = false := by rw [HY.out]; simp only [vCl, q1, Bool.false_and, Bool.true_and]
    have HY2 := Lib.hid hy; clear hy HY
    try clear m0
    try clear m1
    go_wp2
    go_ret
    exact ⟨by rw [HY2.out]; rfl, HB.out⟩
  · obtain ⟨hw1, hw2⟩ := bw_iff.1 q1
    go_wp2_with fail
    refine (isBetween_bw _ _ _ _).mono ?_
    rintro e w0 ⟨rfl, rfl⟩
    cases q2 : bw h 1 6
    · have hy : y = false := by rw [HY.out]; simp only [vCl, q1, q2, Bool.false_and, Bool.true_and]
      have HY2 := Lib.hid hy; clear hy HY
      try clear m0
      try clear m1
      go_wp2
      go_ret
      exact ⟨by rw [HY2.out]; rfl, HB.out⟩
    · obtain ⟨hh1, hh2⟩ := bw_iff.1 q2
      obtain ⟨pa1, pa2⟩ := side_prod (show 0 ≤ w by omega) hw2 (show 0 ≤ h by omega) hh2
      obtain ⟨pb1, pb2⟩ := side_prod (show 0 ≤ w - 1 by omega) (show w - 1 ≤ 5 by omega) (show 0 ≤ h by omega) hh2
      obtain ⟨pc1, pc2⟩ := side_prod (show 0 ≤ w by omega) hw2 (show 0 ≤ h - 1 by omega) (show h - 1 ≤ 5 by omega)
      go_wp2_with fail
      refine (areCosts_any nb b (w * h) B _ (HL.out.1.ext HB.out)).mono ?_
      rintro e w1 ⟨rfl, hx⟩
      replace m0 := keepAt hx mz m0
      replace m1 := keepAt hx mz m1
      replace m2 := keepAt hx mz m2
      replace m3 := keepAt hx mz m3
      replace m4 := keepAt hx mz m4
      replace m5 := keepAt hx mz m5
      replace mz := Nat.lt_of_lt_of_le mz hx.size
      have HX1 : Hid (Ext W w1) := Lib.hid (HB.out.trans hx)
      clear hx
      cases q3 : okL nb b (w * h)
      · have hy : y = false := by rw [HY.out]; simp only [vCl, q1, q2, q3, Bool.false_and, Bool.true_and]
        have HY2 := Lib.hid hy; clear hy HY
        try clear m0
        try clear m1
        go_wp2
        go_ret
        exact ⟨by rw [HY2.out]; rfl, HX1.out⟩
      · have _u := 0
        go_wp2_with fail
        refine (areCosts_any nx x (w * h) X _ (HL.out.2.1.ext HX1.out)).mono ?_
        rintro e w2 ⟨rfl, hx⟩
        replace m0 := keepAt hx mz m0
        replace m1 := keepAt hx mz m1
        replace m2 := keepAt hx mz m2
        replace m3 := keepAt hx mz m3
        replace m4 := keepAt hx mz m4
        replace m5 := keepAt hx mz m5
        replace mz := Nat.lt_of_lt_of_le mz hx.size
        have HX2 : Hid (Ext W w2) := Lib.hid (HX1.out.trans hx)
        clear hx
        cases q4 : okL nx x (w * h)
        · have hy : y = false := by rw [HY.out]; simp only [vCl, q1, q2, q3, q4, Bool.false_and, Bool.true_and]
          have HY2 := Lib.hid hy; clear hy HY
          try clear m0
          try clear m1
          go_wp2
          go_ret
          exact ⟨by rw [HY2.out]; rfl, HX2.out⟩
        · have _u := 0
          go_wp2_with fail
          refine (areCosts_any nr r ((w - 1) * h) R _ (HL.out.2.2.1.ext HX2.out)).mono ?_
          rintro e w3 ⟨rfl, hx⟩
          replace m0 := keepAt hx mz m0
          replace m1 := keepAt hx mz m1
          replace m2 := keepAt hx mz m2
          replace m3 := keepAt hx mz m3
          replace m4 := keepAt hx mz m4
          replace m5 := keepAt hx mz m5
          replace mz := Nat.lt_of_lt_of_le mz hx.size
          have HX3 : Hid (Ext W w3) := Lib.hid (HX2.out.trans hx)
          clear hx
          cases q5 : okL nr r ((w - 1) * h)
          · have hy : y = false := by rw [HY.out]; simp only [vCl, q1, q2, q3, q4, q5, Bool.false_and, Bool.true_and]
            have HY2 := Lib.hid hy; clear hy HY
            try clear m0
            try clear m1
            go_wp2
            go_ret
            exact ⟨by rw [HY2.out]; rfl, HX3.out⟩
          · have _u := 0
            go_wp2_with fail
            refine (areCosts_any nd d (w * (h - 1)) D _ (HL.out.2.2.2.ext HX3.out)).mono ?_
            rintro e w4 ⟨rfl, hx⟩
            replace m0 := keepAt hx mz m0
            replace m1 := keepAt hx mz m1
            replace m2 := keepAt hx mz m2
            replace m3 := keepAt hx mz m3
            replace m4 := keepAt hx mz m4
            replace m5 := keepAt hx mz m5
            replace mz := Nat.lt_of_lt_of_le mz hx.size
            have HX4 : Hid (Ext W w4) := Lib.hid (HX3.out.trans hx)
            clear hx
            cases q6 : okL nd d (w * (h - 1))
            · have hy : y = false := by rw [HY.out]; simp only [vCl, q1, q2, q3, q4, q5, q6, Bool.false_and, Bool.true_and]
              have HY2 := Lib.hid hy; clear hy HY
              try clear m0
              try clear m1
              go_wp2
              go_ret
              exact ⟨by rw [HY2.out]; rfl, HX4.out⟩
            · have hy : y = true := by rw [HY.out]; simp only [vCl, q1, q2, q3, q4, q5, q6, Bool.true_and]
              have HY2 := Lib.hid hy; clear hy HY
              go_wp2
              go_ret
              exact ⟨by rw [HY2.out]; rfl, HX4.out⟩
end Go.Proofs.Ytilcbbdmenknfab
namespace Go.Proofs.Ytilcbbdmenknfab
open Go.ChangeShapes Go.WideShapes Go.ChangeAt Go.RowKit Go.Joins Go.Deep

theorem cells22 : Try.prog.cellsOf 22 = 1 := by kernel_rfl
theorem cells24 : Try.prog.cellsOf 24 = 6 := by kernel_rfl
theorem array6 {α : Type} {cs : Array α} (h : cs.size = 6) : ∃ c0 c1 c2 c3 c4 c5, cs = #[c0, c1, c2, c3, c4, c5] := by
  obtain ⟨l⟩ := cs
  match l, h with
  | [c0, c1, c2, c3, c4, c5], _ => exact ⟨c0, c1, c2, c3, c4, c5, rfl⟩

set_option maxRecDepth 1000000 in
theorem open_cloth_in {H : Type} {enc : TypeId × Value → H} {W : World} {r : Reach} {b0 base : Nat} {spare : Nat → Bool} {held : Bool} {v : Value} {d : DataW H} {p : List MemPlace} (hv : Value.okWide Try.prog W r b0 24 v)
    (h : DataW.Trod enc Try.prog W base spare held 24 v d p) : ∃ c : Cl, Kl W v c := by
  obtain ⟨cs, rfl, hsz⟩ := okWide_struct Try.underlying24 hv
  obtain ⟨c0, c1, c2, c3, c4, c5, rfl⟩ := array6 (hsz.trans cells24)
  obtain ⟨fuel, hf⟩ := h
  obtain ⟨xs, k', -, -, -, hxl, hg⟩ := DataW.trod_struct Try.underlying24 hf
  match xs, hxl with
  | [y0, y1, y2, y3, y4, y5], _ =>
    have g0 := hg 0 _ rfl
    have g1 := hg 1 _ rfl
    have g2 := hg 2 _ rfl
    have g3 := hg 3 _ rfl
    have g4 := hg 4 _ rfl
    have g5 := hg 5 _ rfl
    simp [cells3, cells22, Value.cells] at g0 g1 g2 g3 g4 g5
    obtain ⟨z0, e0, -⟩ := DataW.trod_int Try.underlying3 (show _ = some y0 from g0)
    obtain ⟨z1, e1, -⟩ := DataW.trod_int Try.underlying3 (show _ = some y1 from g1)
    simp at e0 e1
    subst e0 e1
    have key : ∀ (u : Value) (y : DataW H × List MemPlace), DataW.trod enc Try.prog W base spare held k' 22 [u] = some y → ∃ (n : Nat) (x : Nat → Int), Il W u n x := fun u y hu =>
      open_list_in (fun z => .int .i64 z) Try.underlying22 cells3 (fun n u y hy => by obtain ⟨z, e, -⟩ := DataW.trod_int Try.underlying3 hy; simp at e; exact ⟨z, e⟩) hu
    obtain ⟨n2, x2, h2⟩ := key _ _ g2
    obtain ⟨n3, x3, h3⟩ := key _ _ g3
    obtain ⟨n4, x4, h4⟩ := key _ _ g4
    obtain ⟨n5, x5, h5⟩ := key _ _ g5
    exact ⟨⟨z0, z1, n2, x2, n3, x3, n4, x4, n5, x5⟩, c2, c3, c4, c5, rfl, h2, h3, h4, h5⟩
end Go.Proofs.Ytilcbbdmenknfab
namespace Go.Proofs.Ytilcbbdmenknfab
open Go.RowKit

/-- the first 50 of each list -/
def Cl.cut (c : Cl) : Cl := ⟨c.w, c.h, min c.nb 50, c.b, min c.nx 50, c.x, min c.nr 50, c.r, min c.nd 50, c.d⟩
theorem okL_cut {n : Nat} {x : Nat → Int} {l : Int} (hl : l ≤ 36) : okL (min n 50) x l = okL n x l := by
  by_cases h : n ≤ 50
  · rw [show min n 50 = n by omega]
  · rw [okL_no (fun k => by have := k.1; omega), okL_no (fun k => by have := k.1; omega)]

theorem il_sc6 {w : World} {base n k : Nat} {v : Value} {x : Nat → Int} (h : w.ownsRow base 3 1 v n (nl n x)) (hk : k < base) (u0 u1 u2 u3 u4 u5 : Value) :
    Il ((((((w.setCell ⟨k, 0, none⟩ u0).setCell ⟨k, 1, none⟩ u1).setCell ⟨k, 2, none⟩ u2).setCell ⟨k, 3, none⟩ u3).setCell ⟨k, 4, none⟩ u4).setCell ⟨k, 5, none⟩ u5) v n x :=
  ownsRow_il (ownsRow_setCell_below (ownsRow_setCell_below (ownsRow_setCell_below (ownsRow_setCell_below (ownsRow_setCell_below (ownsRow_setCell_below h hk u0) hk u1) hk u2) hk u3) hk u4) hk u5)

set_option maxHeartbeats 4000000 in
set_option maxRecDepth 100000 in
theorem cloth_any (c : Cl) (V : Value) (W : World) (hV : Kl W V c) :
    Calls Try.prog 5 #[V] W fun e W' => ∃ U, e = .returned U ∧ Kl W' U c.cut ∧ Ext W W' := by
  obtain ⟨B, X, R, D, rfl, hB, hX, hR, hD⟩ := hV
  obtain ⟨w, h, nb, b, nx, x, nr, r, nd, d⟩ := c
  dsimp only at hB hX hR hD ⊢
  have HL := Lib.hid (And.intro hB (And.intro hX (And.intro hR hD)))
  go_enter Try.func5, Try.ntmps5
  go_upto_region 1 with fail
  have bb := al2 W (.cells #[.int .i64 w, .int .i64 h, B, X, R, D] 24) (.cells #[.int .i64 0, .int .i64 0, .slice none 0 0, .slice none 0 0, .slice none 0 0, .slice none 0 0] 29)
  have hh0 : ((W.alloc (.cells #[.int .i64 w, .int .i64 h, B, X, R, D] 24)).alloc (.cells #[.int .i64 0, .int .i64 0, .slice none 0 0, .slice none 0 0, .slice none 0 0, .slice none 0 0] 29)).heap[W.heap.size]? = some (.cells #[.int .i64 w, .int .i64 h, B, X, R, D] 24 (0, 0)) := (Below.heap_alloc _ _ _ (by simp)).trans (heap_alloc_new W _)
  have hh1 := heap_alloc_new (W.alloc (.cells #[.int .i64 w, .int .i64 h, B, X, R, D] 24)) (.cells #[.int .i64 0, .int .i64 0, .slice none 0 0, .slice none 0 0, .slice none 0 0, .slice none 0 0] 29)
  simp only [World.size_alloc] at hh1
  have hz : ((W.alloc (.cells #[.int .i64 w, .int .i64 h, B, X, R, D] 24)).alloc (.cells #[.int .i64 0, .int .i64 0, .slice none 0 0, .slice none 0 0, .slice none 0 0, .slice none 0 0] 29)).heap.size = W.heap.size + 1 + 1 := by simp
  generalize (W.alloc (.cells #[.int .i64 w, .int .i64 h, B, X, R, D] 24)).alloc (.cells #[.int .i64 0, .int .i64 0, .slice none 0 0, .slice none 0 0, .slice none 0 0, .slice none 0 0] 29) = W1 at *
  have HB : Hid (Ext W W1) := Lib.hid bb
  have HH := Lib.hid hh1
  obtain ⟨m0, m1, m2, m3, m4, m5, mz, -⟩ := six hh0
  have HM := Lib.hid (And.intro m0 (And.intro m1 (And.intro m2 (And.intro m3 (And.intro m4 m5)))))
  have hz1 : W.heap.size + 1 < W1.heap.size := by omega
  clear bb hh0 hh1 hB hX hR hD m0 m1 m2 m3 m4 m5
  refine wp_region_noPanic ?_
  refine wp_split (S := fun X => Ext W1 X) 17 (by kernel_rfl) (by kernel_rfl) (Ext.drw (Ext.refl _)) ?_
  simp only [List.take_succ_cons, List.take_zero, List.drop_succ_cons, List.drop_zero]
  refine take_at 0 (some 3) (.pointer (some ⟨W.heap.size, 0, none⟩)) rfl rfl (by kernel_rfl) (by kernel_rfl) (by kernel_rfl) (fun _ _ _ h => h) (Or.inl ⟨by rfl, fun w' hSw => ?_⟩) (Ext.drw (Ext.refl _)) ?_
  · skip
    try clear hSw
    go_simp
    all_goals (with_reducible rfl)
  try simp only [Act.put, List.setIfInBounds_toArray, List.set_cons_zero, List.set_cons_succ]
  refine take_at 1 (some 4) (.int .i64 w) rfl rfl (by kernel_rfl) (by kernel_rfl) (by kernel_rfl) (fun _ _ _ h => h) (Or.inl ⟨by rfl, fun w' hSw => ?_⟩) (Ext.drw (Ext.refl _)) ?_
  · have z1 := keepAt hSw mz HM.out.1
    try clear hSw
    go_simp
    all_goals (with_reducible rfl)
  try simp only [Act.put, List.setIfInBounds_toArray, List.set_cons_zero, List.set_cons_succ]
  refine take_at 2 (some 5) (.pointer (some ⟨W.heap.size, 1, none⟩)) rfl rfl (by kernel_rfl) (by kernel_rfl) (by kernel_rfl) (fun _ _ _ h => h) (Or.inl ⟨by rfl, fun w' hSw => ?_⟩) (Ext.drw (Ext.refl _)) ?_
  · skip
    try clear hSw
    go_simp
    all_goals (with_reducible rfl)
  try simp only [Act.put, List.setIfInBounds_toArray, List.set_cons_zero, List.set_cons_succ]
  refine take_at 3 (some 6) (.int .i64 h) rfl rfl (by kernel_rfl) (by kernel_rfl) (by kernel_rfl) (fun _ _ _ h => h) (Or.inl ⟨by rfl, fun w' hSw => ?_⟩) (Ext.drw (Ext.refl _)) ?_
  · have z1 := keepAt hSw mz HM.out.2.1
    try clear hSw
    go_simp
    all_goals (with_reducible rfl)
  try simp only [Act.put, List.setIfInBounds_toArray, List.set_cons_zero, List.set_cons_succ]
  refine take_at 4 (some 7) (.pointer (some ⟨W.heap.size, 2, none⟩)) rfl rfl (by kernel_rfl) (by kernel_rfl) (by kernel_rfl) (fun _ _ _ h => h) (Or.inl ⟨by rfl, fun w' hSw => ?_⟩) (Ext.drw (Ext.refl _)) ?_
  · skip
    try clear hSw
    go_simp
    all_goals (with_reducible rfl)
  try simp only [Act.put, List.setIfInBounds_toArray, List.set_cons_zero, List.set_cons_succ]
  refine take_at 5 (some 8) (B) rfl rfl (by kernel_rfl) (by kernel_rfl) (by kernel_rfl) (fun _ _ _ h => h) (Or.inl ⟨by rfl, fun w' hSw => ?_⟩) (Ext.drw (Ext.refl _)) ?_
  · have z1 := keepAt hSw mz HM.out.2.2.1
    try clear hSw
    go_simp
    all_goals (with_reducible rfl)
  try simp only [Act.put, List.setIfInBounds_toArray, List.set_cons_zero, List.set_cons_succ]
  refine take_at 7 (some 10) (.pointer (some ⟨W.heap.size, 3, none⟩)) rfl rfl (by kernel_rfl) (by kernel_rfl) (by kernel_rfl) (fun _ _ _ h => h) (Or.inl ⟨by rfl, fun w' hSw => ?_⟩) (Ext.drw (Ext.refl _)) ?_
  · skip
    try clear hSw
    go_simp
    all_goals (with_reducible rfl)
  try simp only [Act.put, List.setIfInBounds_toArray, List.set_cons_zero, List.set_cons_succ]
  refine take_at 8 (some 11) (X) rfl rfl (by kernel_rfl) (by kernel_rfl) (by kernel_rfl) (fun _ _ _ h => h) (Or.inl ⟨by rfl, fun w' hSw => ?_⟩) (Ext.drw (Ext.refl _)) ?_
  · have z1 := keepAt hSw mz HM.out.2.2.2.1
    try clear hSw
    go_simp
    all_goals (with_reducible rfl)
  try simp only [Act.put, List.setIfInBounds_toArray, List.set_cons_zero, List.set_cons_succ]
  refine take_at 10 (some 13) (.pointer (some ⟨W.heap.size, 4, none⟩)) rfl rfl (by kernel_rfl) (by kernel_rfl) (by kernel_rfl) (fun _ _ _ h => h) (Or.inl ⟨by rfl, fun w' hSw => ?_⟩) (Ext.drw (Ext.refl _)) ?_
  · skip
    try clear hSw
    go_simp
    all_goals (with_reducible rfl)
  try simp only [Act.put, List.setIfInBounds_toArray, List.set_cons_zero, List.set_cons_succ]
  refine take_at 11 (some 14) (R) rfl rfl (by kernel_rfl) (by kernel_rfl) (by kernel_rfl) (fun _ _ _ h => h) (Or.inl ⟨by rfl, fun w' hSw => ?_⟩) (Ext.drw (Ext.refl _)) ?_
  · have z1 := keepAt hSw mz HM.out.2.2.2.2.1
    try clear hSw
    go_simp
    all_goals (with_reducible rfl)
  try simp only [Act.put, List.setIfInBounds_toArray, List.set_cons_zero, List.set_cons_succ]
  refine take_at 13 (some 16) (.pointer (some ⟨W.heap.size, 5, none⟩)) rfl rfl (by kernel_rfl) (by kernel_rfl) (by kernel_rfl) (fun _ _ _ h => h) (Or.inl ⟨by rfl, fun w' hSw => ?_⟩) (Ext.drw (Ext.refl _)) ?_
  · skip
    try clear hSw
    go_simp
    all_goals (with_reducible rfl)
  try simp only [Act.put, List.setIfInBounds_toArray, List.set_cons_zero, List.set_cons_succ]
  refine take_at 14 (some 17) (D) rfl rfl (by kernel_rfl) (by kernel_rfl) (by kernel_rfl) (fun _ _ _ h => h) (Or.inl ⟨by rfl, fun w' hSw => ?_⟩) (Ext.drw (Ext.refl _)) ?_
  · have z1 := keepAt hSw mz HM.out.2.2.2.2.2
    try clear hSw
    go_simp
    all_goals (with_reducible rfl)
  try simp only [Act.put, List.setIfInBounds_toArray, List.set_cons_zero, List.set_cons_succ]
  refine wpAnyH_ready (rs := [6]) (by kernel_rfl) (by simp) ?_
  refine AllReadyH.cons rfl (fun K hK => ?_) AllReadyH.nil
  go_simp
  refine (few_any nb b B _ (HL.out.1.ext (HB.out.trans (Ext.drw (Ext.refl _))))).mono ?_
  rintro e v6 ⟨U6, rfl, hi6, hb6⟩
  have e6 : Ext W1 v6 := (Ext.drw (Ext.refl _)).trans hb6
  try go_wp2_with fail
  refine hK.out _ _ e6 (fun _ => ?_)
  clear hK K
  try simp only [Act.put, List.setIfInBounds_toArray, List.set_cons_zero, List.set_cons_succ]
  have HI6 := Lib.hid hi6
  obtain ⟨A6, c6, rfl⟩ := shape_own hi6
  clear hi6
  refine wpAnyH_ready (rs := [9]) (by kernel_rfl) (by simp) ?_
  refine AllReadyH.cons rfl (fun K hK => ?_) AllReadyH.nil
  go_simp
  refine (few_any nx x X _ (HL.out.2.1.ext (HB.out.trans e6))).mono ?_
  rintro e v9 ⟨U9, rfl, hi9, hb9⟩
  have e9 : Ext W1 v9 := (e6).trans hb9
  try go_wp2_with fail
  refine hK.out _ _ e9 (fun _ => ?_)
  clear hK K
  try simp only [Act.put, List.setIfInBounds_toArray, List.set_cons_zero, List.set_cons_succ]
  have HI9 := Lib.hid hi9
  obtain ⟨A9, c9, rfl⟩ := shape_own hi9
  clear hi9
  refine wpAnyH_ready (rs := [12]) (by kernel_rfl) (by simp) ?_
  refine AllReadyH.cons rfl (fun K hK => ?_) AllReadyH.nil
  go_simp
  refine (few_any nr r R _ (HL.out.2.2.1.ext (HB.out.trans e9))).mono ?_
  rintro e v12 ⟨U12, rfl, hi12, hb12⟩
  have e12 : Ext W1 v12 := (e9).trans hb12
  try go_wp2_with fail
  refine hK.out _ _ e12 (fun _ => ?_)
  clear hK K
  try simp only [Act.put, List.setIfInBounds_toArray, List.set_cons_zero, List.set_cons_succ]
  have HI12 := Lib.hid hi12
  obtain ⟨A12, c12, rfl⟩ := shape_own hi12
  clear hi12
  refine wpAnyH_ready (rs := [15]) (by kernel_rfl) (by simp) ?_
  refine AllReadyH.cons rfl (fun K hK => ?_) AllReadyH.nil
  go_simp
  refine (few_any nd d D _ (HL.out.2.2.2.ext (HB.out.trans e12))).mono ?_
  rintro e v15 ⟨U15, rfl, hi15, hb15⟩
  have e15 : Ext W1 v15 := (e12).trans hb15
  try go_wp2_with fail
  refine hK.out _ _ e15 (fun _ => ?_)
  clear hK K
  try simp only [Act.put, List.setIfInBounds_toArray, List.set_cons_zero, List.set_cons_succ]
  have HI15 := Lib.hid hi15
  obtain ⟨A15, c15, rfl⟩ := shape_own hi15
  clear hi15
  refine take_at 16 (some 19) (.agg #[.int .i64 w, .int .i64 h, .slice A6 (min nb 50) c6, .slice A9 (min nx 50) c9, .slice A12 (min nr 50) c12, .slice A15 (min nd 50) c15]) rfl rfl (by kernel_rfl) (by kernel_rfl) (by kernel_rfl) (fun _ _ _ h => h) (Or.inl ⟨by rfl, fun w' hSw => ?_⟩) (e15) ?_
  · skip
    try clear hSw
    go_simp
    all_goals (with_reducible rfl)
  try simp only [Act.put, List.setIfInBounds_toArray, List.set_cons_zero, List.set_cons_succ]
  refine wpAnyH_done (by kernel_rfl) ?_ _
  refine cut_normal ?_
  obtain ⟨q0, q1, q2, q3, q4, q5, qz, qf⟩ := six ((Below.block e15 (W.heap.size + 1) hz1).trans HH.out)
  have EX := Lib.hid e15
  clear e15
  go_wp2_with fail
  refine NoPanic.normal ?_
  go_wp2
  refine bodyPost_ret (v := .agg #[.int .i64 w, .int .i64 h, .slice A6 (min nb 50) c6, .slice A9 (min nx 50) c9, .slice A12 (min nr 50) c12, .slice A15 (min nd 50) c15]) (by simp [results, Try.results5, go_sem, q0, q1, q2, q3, q4, q5]) rfl ?_
  have s6 : W.heap.size + 1 < W1.drew.heap.size := by show W.heap.size + 1 < W1.heap.size; omega
  have s9 := Nat.lt_of_lt_of_le s6 hb6.size
  have s12 := Nat.lt_of_lt_of_le s9 hb9.size
  have s15 := Nat.lt_of_lt_of_le s12 hb12.size
  have le : W.heap.size ≤ W.heap.size + 1 := by omega
  refine ⟨_, rfl, ⟨_, _, _, _, rfl, il_sc6 (World.ownsRow.ext HI6.out (hb9.trans (hb12.trans hb15))) s6 _ _ _ _ _ _, il_sc6 (World.ownsRow.ext HI9.out (hb12.trans hb15)) s9 _ _ _ _ _ _, il_sc6 (World.ownsRow.ext HI12.out hb15) s12 _ _ _ _ _ _, il_sc6 HI15.out s15 _ _ _ _ _ _⟩, ?_⟩
  exact (((((((HB.out.trans EX.out).sc le).sc le).sc le).sc le).sc le).sc le)
end Go.Proofs.Ytilcbbdmenknfab
