/- Walks: numbered, slices.Equal of flags. · Walks: Sides. · Two rows of flags grown side by side; the least sides' lattice. · Walks: networkOf. -/
import Derived.Test.YtilcbbdmenknfabM11
import Derived.Test.YtilcbbdmenknfabM10
import Derived.RegionTactic
import Derived.ChangeAlike
import Derived.Maps.AppendAt
namespace Go.Proofs.Ytilcbbdmenknfab
open Go.RowKit

theorem bits_and1 (x : Nat) (hx : x < 1000000) : bits .and .i64 (x : Int) 1 = ((x % 2 : Nat) : Int) := by
  have h1 : (BitVec.ofInt 64 (x : Int)).toNat = x := by
    rw [BitVec.ofInt_natCast, BitVec.toNat_ofNat]; exact Nat.mod_eq_of_lt (by omega)
  show IntKind.i64.wrap ((BitVec.ofInt 64 (x : Int) &&& BitVec.ofInt 64 (1 : Int)).toNat : Int) = _
  have h2 : (BitVec.ofInt 64 (1 : Int)).toNat = 1 := by decide
  rw [BitVec.toNat_and, h1, h2, Nat.and_one_is_mod]
  exact IntWalk.i64_in _ (by omega)
/-- the two lists are the same -/
def eqB (n m : Nat) (s t : Nat → Bool) : Bool := decide (n = m) && (List.range n).all fun i => s i == t i
theorem eqB_iff {n m : Nat} {s t : Nat → Bool} : eqB n m s t = true ↔ n = m ∧ ∀ i, i < n → s i = t i := by
  unfold eqB
  rw [Bool.and_eq_true, decide_eq_true_iff, List.all_eq_true]
  constructor
  · rintro ⟨h1, h2⟩; exact ⟨h1, fun i hi => by simpa using h2 i (List.mem_range.2 hi)⟩
  · rintro ⟨h1, h2⟩; exact ⟨h1, fun i hi => by simpa using h2 i (List.mem_range.1 hi)⟩
theorem eqB_no {n m : Nat} {s t : Nat → Bool} (h : ¬ (n = m ∧ ∀ i, i < n → s i = t i)) : eqB n m s t = false := by
  cases e : eqB n m s t
  · rfl
  · exact absurd (eqB_iff.1 e) h

set_option maxHeartbeats 4000000 in
set_option maxRecDepth 100000 in
theorem equalB_any (n m : Nat) (s t : Nat → Bool) (U V : Value) (W : World) (hU : Bl W U n s) (hV : Bl W V m t) (hn : n ≤ 1000) :
    Calls Try.prog 19 #[U, V] W fun e W' => e = .returned (.bool (eqB n m s t)) ∧ Ext W W' := by
  obtain ⟨r, hr⟩ : ∃ r, r = eqB n m s t := ⟨_, rfl⟩
  rw [← hr]
  have HR := Lib.hid hr; clear hr
  have HU := Lib.hid hU; have HV := Lib.hid hV
  obtain ⟨A1, c1, rfl, hc1, hd1, -⟩ := hU
  obtain ⟨A2, c2, rfl, hc2, hd2, -⟩ := hV
  go_enter Try.func19, Try.ntmps19
  by_cases hnm : n = m
  · subst hnm
    go_wp2_with fail
    go_loopw [13] (fun i wr => ∃ k : Nat, i = .int .i64 k ∧ k ≤ n ∧ Hid ((∀ j, j < k → s j = t j) ∧ Ext W wr)) (fun i _ => n - (intOf i).toNat)
    case atStart => exact ⟨0, rfl, Nat.zero_le _, Lib.hid ⟨fun j hj => by omega, Ext.refl _⟩⟩
    case round =>
      obtain ⟨k, rfl, hk, hin⟩ := hrel
      by_cases hlt : k < n
      · obtain ⟨b1, o1, rfl, -, e1⟩ := Vl.at HU.out hin.out.2 hlt
        obtain ⟨b2, o2, rfl, -, e2⟩ := Vl.at HV.out hin.out.2 hlt
        go_upto_region 6 with fail
        obtain ⟨p, hp⟩ : ∃ p, p = s k := ⟨_, rfl⟩
        obtain ⟨q, hq⟩ : ∃ q, q = t k := ⟨_, rfl⟩
        rw [← hp] at e1; rw [← hq] at e2
        have HP := Lib.hid (And.intro hp hq)
        clear hp hq
        have e1d : wr.drew.cell? ⟨b1, o1 + k, none⟩ = some (.bool p) := e1
        have e2d : wr.drew.cell? ⟨b2, o2 + k, none⟩ = some (.bool q) := e2
        clear e1 e2
        by_cases hpq : p = q
        · subst hpq
          have hne : (p != p) = false := by cases p <;> rfl
          go_region
          go_wp2
          go_roundw
          case rel =>
            refine ⟨k + 1, by go_num, by omega, Lib.hid ⟨fun j hj => ?_, hin.out.2.drw⟩⟩
            by_cases e : j = k
            · subst e; rw [← HP.out.1, ← HP.out.2]
            · exact hin.out.1 j (by omega)
          case measure => simp [intOf]; omega
        · have hne : (!(p == q)) = true := by cases p <;> cases q <;> simp_all
          have hr : r = false := by rw [HR.out]; exact eqB_no (fun h => hpq (by rw [HP.out.1, HP.out.2]; exact h.2 k hlt))
          have HR2 := Lib.hid hr; clear hr
          go_region
          go_wp2
          go_ret
          exact ⟨by rw [HR2.out]; rfl, hin.out.2.drw⟩
      · obtain rfl : k = n := by omega
        have hr : r = true := by rw [HR.out]; exact eqB_iff.2 ⟨rfl, hin.out.1⟩
        have HR2 := Lib.hid hr; clear hr
        go_wp2
        go_ret
        exact ⟨by rw [HR2.out]; rfl, hin.out.2⟩
  · have hne : ((n : Int) != m) = true := by simp; omega
    have hr : r = false := by rw [HR.out]; exact eqB_no (fun h => hnm h.1)
    have HR2 := Lib.hid hr; clear hr
    go_wp2
    go_ret
    exact ⟨by rw [HR2.out]; rfl, Ext.refl _⟩
end Go.Proofs.Ytilcbbdmenknfab
namespace Go.Proofs.Ytilcbbdmenknfab
open Go.RowKit

theorem pow_shl (s : Nat) : (2 : Int) ^ s = ((2 ^ s : Nat) : Int) := by rw [Int.natCast_pow]; rfl
theorem shl_small (r : Nat) (h : r ≤ 10) : wrap64 ((2 : Int) ^ r) = ((2 ^ r : Nat) : Int) := by
  have h1 : 2 ^ r ≤ 1024 := Nat.le_trans (Nat.pow_le_pow_right (by omega) h) (by decide)
  rw [pow_shl]
  generalize 2 ^ r = P at *
  unfold wrap64
  omega


set_option maxRecDepth 100000 in
theorem info31 : (Try.prog.info? 31).map (fun i => (i.zero, i.size, i.bytes)) = some (some (.slice none 0 0), 1, 24) := by kernel_rfl

/-- the sides with the numbers ks lie at slice q, in blocks from base on -/
def Sdl (w : World) (base : Nat) (q : Value) (N : Nat) (ks : List Nat) : Prop :=
  ∃ gs : List Nat, gs.length = ks.length ∧ w.ownsRow base 31 1 q ks.length (gs.map fun g => .slice (some ⟨g, 0, none⟩) N N) ∧ ∀ i, i < ks.length → BB w (gs.getD i 0) N (numb N (ks.getD i 0))
theorem Sdl.ext {w w' : World} {base : Nat} {q : Value} {N : Nat} {ks : List Nat} (h : Sdl w base q N ks) (e : Ext w w') : Sdl w' base q N ks := by
  obtain ⟨gs, h1, h2, h3⟩ := h
  exact ⟨gs, h1, World.ownsRow.ext h2 e, fun i hi => (h3 i hi).ext e⟩
theorem own_ne {w : World} {base n N b : Nat} {q : Value} {xs : List Value} {s : Nat → Bool} (h : w.ownsRow base 31 1 q n xs) (hb : BB w b N s) : q.ownBlock ≠ some b := by
  intro e
  obtain ⟨-, ⟨rfl, -⟩ | ⟨g, cap, cur, rfl, -, hh, -⟩⟩ := h
  · simp [Value.ownBlock] at e
  · simp [Value.ownBlock] at e
    subst e
    unfold BB Bk at hb
    rw [hb] at hh
    simp at hh
theorem Sdl.more {w w' : World} {base N k g : Nat} {q q' : Value} {ks gs : List Nat} (h1 : gs.length = ks.length) (h2 : w.ownsRow base 31 1 q ks.length (gs.map fun g => .slice (some ⟨g, 0, none⟩) N N)) (h3 : ∀ i, i < ks.length → BB w (gs.getD i 0) N (numb N (ks.getD i 0)))
    (hg : BB w g N (numb N k)) (hq : w'.ownsRow base 31 1 q' (ks.length + 1) ((gs.map fun g => .slice (some ⟨g, 0, none⟩) N N) ++ [.slice (some ⟨g, 0, none⟩) N N])) (hgr : w.grownBy w' q.ownBlock) : Sdl w' base q' N (ks ++ [k]) := by
  have keep : ∀ b s, BB w b N s → BB w' b N s := fun b s hb => (hgr.block b (Bk.lt hb) (fun e => own_ne h2 hb e.symm)).trans hb
  refine ⟨gs ++ [g], by simp [h1], by rw [List.length_append, List.map_append]; exact hq, fun i hi => ?_⟩
  simp only [List.length_append, List.length_singleton] at hi
  simp only [List.getD_eq_getElem?_getD]
  by_cases e : i < ks.length
  · rw [List.getElem?_append_left (by omega), List.getElem?_append_left e]
    have := keep _ _ (h3 i e)
    simpa only [List.getD_eq_getElem?_getD] using this
  · have e2 : i = ks.length := by omega
    rw [List.getElem?_append_right (by omega), List.getElem?_append_right (by omega), h1, e2]
    simpa using keep _ _ hg

/-- the numbers of the minimum sides among the first k -/
def mins (G : Nw) (N : Nat) (v : Int) (k : Nat) : List Nat := (List.range k).filter fun i => decide (G.ct (numb N i) = v)
theorem mins_succ (G : Nw) (N : Nat) (v : Int) (k : Nat) : mins G N v (k + 1) = mins G N v k ++ (if G.ct (numb N k) = v then [k] else []) := by
  unfold mins
  rw [List.range_succ, List.filter_append]
  congr 1
  by_cases h : G.ct (numb N k) = v <;> simp [h]
theorem mins_len (G : Nw) (N : Nat) (v : Int) (k : Nat) : (mins G N v k).length ≤ k := Nat.le_trans (List.length_filter_le _ _) (by simp)

end Go.Proofs.Ytilcbbdmenknfab
namespace Go.Proofs.Ytilcbbdmenknfab
open Go.RowKit

theorem mins_mem {G : Nw} {N k n : Nat} {v : Int} : k ∈ mins G N v n ↔ k < n ∧ G.ct (numb N k) = v := by unfold mins; simp
theorem ct_modular (G : Nw) (hc : ∀ k, k < G.m → 0 ≤ G.cp k) (S T : Nat → Bool) : G.ct (fun v => S v && T v) + G.ct (fun v => S v || T v) ≤ G.ct S + G.ct T := by
  unfold Nw.ct
  rw [← sm_add, ← sm_add]
  refine sm_le fun k hk => ?_
  have := hc k hk
  dsimp only
  have tt : ∀ a b c d : Bool, (if (a && c) = true ∧ (b && d) = false then G.cp k else 0) + (if (a || c) = true ∧ (b || d) = false then G.cp k else 0) ≤ (if a = true ∧ b = false then G.cp k else 0) + (if c = true ∧ d = false then G.cp k else 0) := by
    intro a b c d
    cases a <;> cases b <;> cases c <;> cases d <;> simp <;> omega
  exact tt _ _ _ _
theorem Mc.both {G : Nw} {s t : Nat} {v : Int} (hc : ∀ k, k < G.m → 0 ≤ G.cp k) (h : Mc G s t v) {S T : Nat → Bool} (hS : Nw.Sd s t S) (hT : Nw.Sd s t T) (h1 : G.ct S = v) (h2 : G.ct T = v) :
    G.ct (fun v => S v && T v) = v ∧ G.ct (fun v => S v || T v) = v := by
  have h3 := ct_modular G hc S T
  have h4 := h.le (fun v => S v && T v) ⟨by simp [hS.1, hT.1], by simp [hS.2]⟩
  have h5 := h.le (fun v => S v || T v) ⟨by simp [hS.1], by simp [hS.2, hT.2]⟩
  omega
/-- among the listed sides is each minimum side -/
theorem mins_has {G : Nw} {N : Nat} {v : Int} (hN : 2 ≤ N) (hin : G.In N) {S : Nat → Bool} (hS : Nw.Sd 0 (N - 1) S) (hv : G.ct S = v) : ∃ i, i < (mins G N v (2 ^ (N - 2))).length ∧ ∀ u, u < N → numb N ((mins G N v (2 ^ (N - 2))).getD i 0) u = S u := by
  obtain ⟨k, hk, hkS⟩ := numb_ex hN hS
  have : k ∈ mins G N v (2 ^ (N - 2)) := mins_mem.2 ⟨hk, by rw [← hv]; exact G.ct_congr hin hkS⟩
  obtain ⟨i, hi, he⟩ := List.mem_iff_getElem.1 this
  refine ⟨i, hi, fun u hu => ?_⟩
  rw [List.getD_eq_getElem?_getD, List.getElem?_eq_getElem hi, he]
  exact hkS u hu
theorem mins_lattice {G : Nw} {N : Nat} {v : Int} (hN : 2 ≤ N) (hin : G.In N) (hc : ∀ k, k < G.m → 0 ≤ G.cp k) (h : Mc G 0 (N - 1) v) {ks : List Nat} (hks : ks = mins G N v (2 ^ (N - 2))) {p q : Nat} (hp : p < ks.length) (hq : q < ks.length) :
    (∃ i, i < ks.length ∧ ∀ u, u < N → numb N (ks.getD i 0) u = (numb N (ks.getD p 0) u && numb N (ks.getD q 0) u)) ∧ ∃ i, i < ks.length ∧ ∀ u, u < N → numb N (ks.getD i 0) u = (numb N (ks.getD p 0) u || numb N (ks.getD q 0) u) := by
  have key : ∀ r, r < ks.length → G.ct (numb N (ks.getD r 0)) = v := by
    intro r hr
    have : ks.getD r 0 ∈ ks := by rw [List.getD_eq_getElem?_getD, List.getElem?_eq_getElem hr]; exact List.getElem_mem hr
    generalize ks.getD r 0 = y at this ⊢
    rw [hks] at this
    exact (mins_mem.1 this).2
  obtain ⟨e1, e2⟩ := h.both hc (numb_sd (ks.getD p 0) hN) (numb_sd (ks.getD q 0) hN) (key p hp) (key q hq)
  have s1 := numb_sd (ks.getD p 0) hN
  have s2 := numb_sd (ks.getD q 0) hN
  have h1 := mins_has hN hin (S := fun u => numb N (ks.getD p 0) u && numb N (ks.getD q 0) u) ⟨by dsimp only; rw [s1.1, s2.1]; rfl, by dsimp only; rw [s1.2]; rfl⟩ e1
  have h2 := mins_has hN hin (S := fun u => numb N (ks.getD p 0) u || numb N (ks.getD q 0) u) ⟨by dsimp only; rw [s1.1]; rfl, by dsimp only; rw [s1.2, s2.2]; rfl⟩ e2
  rw [← hks] at h1 h2
  exact ⟨h1, h2⟩

/-- some of the first k -/
def anyTo (f : Nat → Bool) (k : Nat) : Bool := (List.range k).any f
theorem anyTo_succ (f : Nat → Bool) (k : Nat) : anyTo f (k + 1) = (anyTo f k || f k) := by simp [anyTo, List.range_succ]
theorem anyTo_true {f : Nat → Bool} {n i : Nat} (hi : i < n) (h : f i = true) : anyTo f n = true := List.any_eq_true.2 ⟨i, List.mem_range.2 hi, h⟩

def bl (k : Nat) (s : Nat → Bool) : List Value := (List.range k).map fun j => Value.bool (s j)
theorem bl_succ (k : Nat) (s : Nat → Bool) : bl (k + 1) s = bl k s ++ [Value.bool (s k)] := by simp [bl, List.range_succ]
theorem ownsRow_bl {w : World} {base n : Nat} {v : Value} {s : Nat → Bool} (h : w.ownsRow base 4 1 v n (bl n s)) : Bl w v n s := by
  obtain ⟨h1, ⟨rfl, h2⟩ | ⟨g, cap, cur, rfl, hb, hh, h5, h6, h7, h8⟩⟩ := h
  · have : n = 0 := by omega
    subst this
    exact ⟨none, 0, rfl, Nat.le_refl _, by omega, fun h => by omega⟩
  · refine ⟨_, cap, rfl, by omega, by simp only [maxLen] at *; omega, fun hp => ⟨g, 0, rfl, (Array.getElem?_eq_some_iff.1 hh).1, fun j hj => ?_⟩⟩
    rw [Nat.zero_add, cell_of_row w g j cur 4 (0, 0) hh]
    have h11 : (bl n s)[j]? = some (.bool (s j)) := by unfold bl; rw [List.getElem?_map, List.getElem?_range hj]; rfl
    rw [← h8, List.getElem?_take, if_pos (by omega)] at h11
    simpa using h11
theorem ownsRow_far {w w' : World} {base n size : Nat} {e : TypeId} {v : Value} {xs : List Value} {r : Option Nat} (h : w.ownsRow base e size v n xs) (hg : w.grownBy w' r) (hne : ∀ b, v.ownBlock = some b → r ≠ some b) : w'.ownsRow base e size v n xs := by
  obtain ⟨h1, h2 | ⟨g, cap, cur, rfl, hb, hh, rest⟩⟩ := h
  · exact ⟨h1, .inl h2⟩
  · exact ⟨h1, .inr ⟨g, cap, cur, rfl, hb, (hg.block g (Array.getElem?_eq_some_iff.1 hh).1 (fun e => hne g rfl e.symm)).trans hh, rest⟩⟩
theorem ext_of_grow {X w w' : World} {base : Nat} {r : Option Nat} (e : Ext X w) (hg : w.grownBy w' r) (hr : ∀ b, r = some b → base ≤ b) (hb : X.heap.size ≤ base) : Ext X w' :=
  ⟨hg.os.trans e.os, hg.tape.trans e.tape, hg.output.trans e.output, Nat.le_trans e.size hg.size, fun b hb' => (hg.block b (Nat.lt_of_lt_of_le hb' e.size) (fun e2 => by have := hr b e2.symm; omega)).trans (e.block b hb')⟩
/-- two rows of flags of the call's own, in blocks of their own -/
structure Tw (w : World) (base : Nat) (u v : Value) (k l : Nat) (s t : Nat → Bool) : Prop where
  fst : w.ownsRow base 4 1 u k (bl k s)
  snd : w.ownsRow base 4 1 v l (bl l t)
  ne : ∀ b, u.ownBlock = some b → v.ownBlock ≠ some b
  le : base ≤ w.heap.size
theorem Tw.symm {w : World} {base : Nat} {u v : Value} {k l : Nat} {s t : Nat → Bool} (h : Tw w base u v k l s t) : Tw w base v u l k t s := ⟨h.snd, h.fst, fun b hb hu => h.ne b hu hb, h.le⟩
theorem Tw.ext {w x : World} {base : Nat} {u v : Value} {k l : Nat} {s t : Nat → Bool} (h : Tw w base u v k l s t) (e : Ext w x) : Tw x base u v k l s t := ⟨World.ownsRow.ext h.fst e, World.ownsRow.ext h.snd e, h.ne, Nat.le_trans h.le e.size⟩
theorem Tw.nil (w : World) (s t : Nat → Bool) : Tw w w.heap.size (.slice none 0 0) (.slice none 0 0) 0 0 s t := ⟨World.ownsRow_nil _ _ _ _, World.ownsRow_nil _ _ _ _, fun b h => by simp [Value.ownBlock] at h, Nat.le_refl _⟩
/-- one flag more onto the first -/
theorem Tw.one {w x : World} {base : Nat} {u v u' : Value} {k l : Nat} {s t : Nat → Bool} (h : Tw w base u v k l s t) {z : Bool} (hz : s k = z) (o : x.ownsRow base 4 1 u' (k + 1) (bl k s ++ [Value.bool z])) (g : w.grownBy x u.ownBlock)
    (a : u'.ownBlock = u.ownBlock ∨ u'.ownBlock = some w.heap.size) : Tw x base u' v (k + 1) l s t ∧ ∀ X : World, Ext X w → X.heap.size ≤ base → Ext X x := by
  refine ⟨⟨by rw [bl_succ, hz]; exact o, ownsRow_far h.snd g (fun b hb e => h.ne b e hb), fun b hb => ?_, Nat.le_trans h.le g.size⟩, fun X e hX => ext_of_grow e g (fun b hb => (World.ownsRow.lt h.fst b hb).1) hX⟩
  rcases a with e | e
  · exact h.ne b (by rw [← e]; exact hb)
  · intro hv
    rw [e] at hb
    injection hb with hb
    have := (World.ownsRow.lt h.snd b hv).2
    omega
end Go.Proofs.Ytilcbbdmenknfab
namespace Go.Proofs.Ytilcbbdmenknfab
open Go.RowKit

theorem arc_news (w : World) (x y z : Value) : ∀ j u, [x, y, z][j]? = some u → (w.alloc (.cells #[x, y, z] 55)).cell? ((⟨w.heap.size, 0, none⟩ : Addr).add j) = some u := by
  intro j u hj
  rw [Addr.add_lit, World.cell?_alloc_new]
  match j, hj with
  | 0, hj => simp at hj; subst hj; rfl
  | 1, hj => simp at hj; subst hj; rfl
  | 2, hj => simp at hj; subst hj; rfl
  | j + 3, hj => simp at hj
theorem arc_news2 (w : World) (x y z p q r : Value) : ∀ j u, [x, y, z, p, q, r][j]? = some u → (w.alloc (.cells #[x, y, z, p, q, r] 55)).cell? ((⟨w.heap.size, 0, none⟩ : Addr).add j) = some u := by
  intro j u hj
  rw [Addr.add_lit, World.cell?_alloc_new]
  match j, hj with
  | 0, hj => simp at hj; subst hj; rfl
  | 1, hj => simp at hj; subst hj; rfl
  | 2, hj => simp at hj; subst hj; rfl
  | 3, hj => simp at hj; subst hj; rfl
  | 4, hj => simp at hj; subst hj; rfl
  | 5, hj => simp at hj; subst hj; rfl
  | j + 6, hj => simp at hj
theorem arc_one (x y z : Int) : ∀ u ∈ [Value.int .i64 x, .int .i64 y, .int .i64 z], u.oneCell' = true := by
  intro u hu; simp at hu; rcases hu with rfl | rfl | rfl <;> rfl
theorem arc_one2 (x y z p q r : Int) : ∀ u ∈ [Value.int .i64 x, .int .i64 y, .int .i64 z, .int .i64 p, .int .i64 q, .int .i64 r], u.oneCell' = true := by
  intro u hu; simp at hu; rcases hu with rfl | rfl | rfl | rfl | rfl | rfl <;> rfl

set_option maxHeartbeats 4000000 in
set_option maxRecDepth 100000 in
theorem networkOf_any (c : Cl) (ri : Int) (V : Value) (W : World) (hV : Kl W V c) (hc : vCl c = true) (hr1 : -100000 ≤ ri) (hr2 : ri ≤ 100000) :
    Calls Try.prog 14 #[V, .int .i64 ri] W fun e W' => ∃ AV SV, e = .returned (.agg #[.int .i64 c.nb, .int .i64 (c.nb + 1), AV, SV]) ∧ Al W' AV (c.nwa ri) ∧ Sl W' (W.heap.size + 1 + 1) SV (c.nb + 2) (stf (c.nwa ri).nw (c.nwa ri).n) ∧ Ext W W' := by
  obtain ⟨⟨v1, v2⟩, ⟨v3, v4⟩, ⟨v5, v6⟩, ⟨v7, v8⟩, ⟨v9, -⟩, ⟨v11, -⟩⟩ := vCl_ok hc
  have hnb36 : c.nb ≤ 36 := by have h1 := (side_prod (show 0 ≤ c.w by omega) v2 (show 0 ≤ c.h by omega) v4).2; omega
  have hnr30 : c.nr ≤ 30 := by have h1 := (side_prod (show 0 ≤ c.w - 1 by omega) (show c.w - 1 ≤ 5 by omega) (show 0 ≤ c.h by omega) v4).2; omega
  have hnd30 : c.nd ≤ 30 := by have h1 := (side_prod (show 0 ≤ c.w by omega) v2 (show 0 ≤ c.h - 1 by omega) (show c.h - 1 ≤ 5 by omega)).2; omega
  have hprn : c.prs.n ≤ 60 := by show c.nr + c.nd ≤ 60; omega
  have hnx : c.nx = c.nb := by omega
  have hwh : c.w * c.h = (c.nb : Int) := v5.symm
  have HVC := Lib.hid (And.intro hc (And.intro v6 v8))
  have HOK := Lib.hid (nwa_ok hc hr1 hr2)
  obtain ⟨c', hc'⟩ : ∃ c', c' = c := ⟨_, rfl⟩
  rw [← hc']
  have HV : Hid (Kl W V c') := Lib.hid (by rw [hc']; exact hV)
  rw [← hc'] at HVC HOK
  have hprn' : c'.prs.n ≤ 60 := by rw [hc']; exact hprn
  clear hprn v1 v2 v3 v4 v5 v6 v7 v8 v9 v11 hnr30 hnd30 hc
  obtain ⟨B, X, R, D, rfl, hB, hX, -, -⟩ := hV
  obtain ⟨w, h, nb, b, nx, x, nr, r, nd, d⟩ := c
  dsimp only at hB hX hnb36 hnx hwh ⊢
  have HBX := Lib.hid (And.intro hB hX)
  have HN : Hid (c'.nb = nb ∧ c'.nx = nx ∧ c'.b = b ∧ c'.x = x) := by rw [hc']; exact Lib.hid ⟨rfl, rfl, rfl, rfl⟩
  clear hc'
  obtain ⟨AB, cB, rfl, hcB, hdB, -⟩ := hB
  obtain ⟨AX, cX, rfl, hcX, hdX, -⟩ := hX
  have HNX := Lib.hid hnx
  clear hnx
  obtain rfl : nx = nb := HNX.out
  clear HNX
  have hcn : c'.nb = nx := HN.out.1
  rw [hcn]
  have HCN := Lib.hid hcn
  clear hcn
  obtain ⟨i0, hi, hz0, hz1, hz2⟩ := info_parts info55
  have HI := Lib.hid (And.intro hi (And.intro hz0 (And.intro hz1 hz2)))
  clear hi hz0 hz1 hz2
  obtain ⟨A1, hA1⟩ : ∃ A1, A1 = c'.cel ri := ⟨_, rfl⟩
  have hA1n : A1.n = nx := by rw [hA1]; exact HCN.out
  have HA1 := Lib.hid (And.intro hA1 hA1n)
  clear hA1 hA1n
  go_enter Try.func14, Try.ntmps14
  go_upto_region 1 with fail
  have bb := al2 W (.cells #[.int .i64 w, .int .i64 h, .slice AB nx cB, .slice AX nx cX, R, D] 29) (.cells #[.int .i64 0, .int .i64 0, .slice none 0 0, .slice none 0 0] 46)
  have hh0 : ((W.alloc (.cells #[.int .i64 w, .int .i64 h, .slice AB nx cB, .slice AX nx cX, R, D] 29)).alloc (.cells #[.int .i64 0, .int .i64 0, .slice none 0 0, .slice none 0 0] 46)).heap[W.heap.size]? = some (.cells #[.int .i64 w, .int .i64 h, .slice AB nx cB, .slice AX nx cX, R, D] 29 (0, 0)) := (Below.heap_alloc _ _ _ (by simp)).trans (heap_alloc_new W _)
  have hh1 := heap_alloc_new (W.alloc (.cells #[.int .i64 w, .int .i64 h, .slice AB nx cB, .slice AX nx cX, R, D] 29)) (.cells #[.int .i64 0, .int .i64 0, .slice none 0 0, .slice none 0 0] 46)
  simp only [World.size_alloc] at hh1
  have hz : ((W.alloc (.cells #[.int .i64 w, .int .i64 h, .slice AB nx cB, .slice AX nx cX, R, D] 29)).alloc (.cells #[.int .i64 0, .int .i64 0, .slice none 0 0, .slice none 0 0] 46)).heap.size = W.heap.size + 1 + 1 := by simp
  generalize (W.alloc (.cells #[.int .i64 w, .int .i64 h, .slice AB nx cB, .slice AX nx cX, R, D] 29)).alloc (.cells #[.int .i64 0, .int .i64 0, .slice none 0 0, .slice none 0 0] 46) = W1 at *
  have HB : Hid (Ext W W1) := Lib.hid bb
  have HH := Lib.hid hh1
  obtain ⟨m0, m1, m2, m3, m4, m5, mz, -⟩ := six hh0
  have HM := Lib.hid (And.intro m0 (And.intro m1 (And.intro m2 (And.intro m3 (And.intro m4 m5)))))
  have zlt : W.heap.size + 1 < W1.heap.size := by omega
  have zle : W1.heap.size ≤ W.heap.size + 1 + 1 := by omega
  have f0 : W1.drew.cell? ⟨W.heap.size, 0, none⟩ = some (.int .i64 w) := m0
  have f1 : W1.drew.cell? ⟨W.heap.size, 1, none⟩ = some (.int .i64 h) := m1
  clear bb hh0 hh1 hz m0 m1 m3 m4 m5
  go_region
  clear f0 f1
  have m2 : W1.drew.cell? ⟨W.heap.size, 2, none⟩ = some (.slice AB nx cB) := m2
  go_wp2_with fail
  clear m2
  go_loopw [7, 26] (fun q i wr => ∃ (k : Nat), i = .int .i64 k ∧ k ≤ nx ∧ Hid (wr.ownsRow W1.heap.size 55 3 q k (acl A1 k) ∧ Ext W1 wr)) (fun _ i _ => nx - (intOf i).toNat)
  case atStart => exact ⟨0, rfl, Nat.zero_le _, Lib.hid ⟨World.ownsRow_nil _ _ _ _, (Ext.refl _).drw⟩⟩
  case round =>
    obtain ⟨k, rfl, hk, hin⟩ := hrel
    obtain ⟨Av, cv, rfl⟩ := shape_own hin.out.1
    by_cases hlt : k < nx
    · obtain ⟨bB, oB, rfl, -, eB⟩ := Vl.at HBX.out.1 (HB.out.trans hin.out.2) hlt
      obtain ⟨bX, oX, rfl, -, eX⟩ := Vl.at HBX.out.2 (HB.out.trans hin.out.2) hlt
      have m2 := keepAt hin.out.2 mz HM.out.2.2.1
      have m3 := keepAt hin.out.2 mz HM.out.2.2.2.1
      have hcb := HVC.out.2.1 k (by rw [HCN.out]; exact hlt)
      have hcx := HVC.out.2.2 k (by rw [HN.out.2.1]; exact hlt)
      rw [HN.out.2.2.1] at hcb
      rw [HN.out.2.2.2] at hcx
      obtain ⟨p, hp⟩ : ∃ p, p = b k := ⟨_, rfl⟩
      obtain ⟨z, hz⟩ : ∃ z, z = x k := ⟨_, rfl⟩
      rw [← hp] at eB hcb
      rw [← hz] at eX hcx
      obtain ⟨b1, b2⟩ := hcb
      obtain ⟨x1, x2⟩ := hcx
      have hmo : c'.more ri k = z + ri - p := by unfold Cl.more; rw [HN.out.2.2.1, HN.out.2.2.2, ← hp, ← hz]
      have HMO := Lib.hid hmo
      clear hp hz hmo
      go_upto_region 6 with fail
      have g2 : wr.drew.cell? ⟨W.heap.size, 2, none⟩ = some (.slice (some ⟨bB, oB, none⟩) nx cB) := m2
      have g3 : wr.drew.cell? ⟨W.heap.size, 3, none⟩ = some (.slice (some ⟨bX, oX, none⟩) nx cX) := m3
      have g4 : wr.drew.cell? ⟨bB, oB + k, none⟩ = some (.int .i64 p) := eB
      have g5 : wr.drew.cell? ⟨bX, oX + k, none⟩ = some (.int .i64 z) := eX
      clear m2 m3 eB eX
      go_region
      clear g2 g3 g4 g5
      have hin2 : Hid (wr.drew.ownsRow W1.heap.size 55 3 (.slice Av k cv) k (acl A1 k) ∧ Ext W1 wr.drew) := Lib.hid ⟨World.ownsRow.ext hin.out.1 (Ext.refl wr).drw, hin.out.2.drw⟩
      clear hin
      generalize wr.drew = wd at *
      obtain ⟨y, hy⟩ : ∃ y, y = z + ri - p := ⟨_, rfl⟩
      have hy1 : -200000 ≤ y := by omega
      have hy2 : y ≤ 200000 := by omega
      rw [← hy]
      have HY := Lib.hid hy
      clear hy
      by_cases hpos : 0 < y
      · have hown := World.ownsRow.ext hin2.out.1 (Ext.alc (Ext.refl wd) (.cells #[.int .i64 (k : Int), .int .i64 ((nx : Int) + 1), .int .i64 y] 55))
        go_wp2_with (at_builtin; refine wpList_append_own _ rfl _ _ 43 rfl W1.heap.size 55 i0 (.agg #[.int .i64 0, .int .i64 0, .int .i64 0]) 3 24 Try.underlying43 HI.out.1 HI.out.2.1 HI.out.2.2.1 HI.out.2.2.2 rfl (by decide) _ k _ rfl hown ⟨wd.heap.size, 0, none⟩ 1 1 [.int .i64 (k : Int), .int .i64 ((nx : Int) + 1), .int .i64 y] rfl rfl (arc_news _ _ _ _) (arc_one (k : Int) ((nx : Int) + 1) y) ?qc3 ?qc4 ?qc5 ?_)
        case qc3 => unfold maxLen; omega
        case qc4 => omega
        case qc5 => have := hin2.out.2.size; simp; omega
        intro v' w2 hown' hgrow _hnil
        clear _hnil
        have hex : Ext W1 w2 := ext_grow (hin2.out.2.alc _) hgrow (fun b' hb' => (World.ownsRow.lt hown b' hb').1) (Nat.le_refl _)
        have HN2 := Lib.hid (And.intro hown' hex)
        clear hown' hex hgrow hown
        go_wp2
        go_roundw
        case rel =>
          refine ⟨k + 1, by go_num, by omega, Lib.hid ⟨?_, HN2.out.2⟩⟩
          have hm : c'.more ri k = y := by rw [HMO.out, ← HY.out]
          have s1 : A1.f k = (k : Int) := by rw [HA1.out.1]; unfold Cl.cel; dsimp only; rw [hm, if_pos hpos]
          have s2 : A1.t k = ((nx : Int) + 1) := by rw [HA1.out.1]; unfold Cl.cel; dsimp only; rw [hm, if_pos hpos]; rw [HCN.out]
          have s3 : A1.c k = y := by rw [HA1.out.1]; unfold Cl.cel; dsimp only; rw [hm, if_pos hpos]
          rw [acl_succ, s1, s2, s3]
          exact HN2.out.1
        case measure => simp [intOf]; omega
      · have hneg : ¬ 0 < y := hpos
        have hown := World.ownsRow.ext hin2.out.1 (Ext.alc (Ext.refl wd) (.cells #[.int .i64 (nx : Int), .int .i64 (k : Int), .int .i64 (-y)] 55))
        go_wp2_with (at_builtin; refine wpList_append_own _ rfl _ _ 43 rfl W1.heap.size 55 i0 (.agg #[.int .i64 0, .int .i64 0, .int .i64 0]) 3 24 Try.underlying43 HI.out.1 HI.out.2.1 HI.out.2.2.1 HI.out.2.2.2 rfl (by decide) _ k _ rfl hown ⟨wd.heap.size, 0, none⟩ 1 1 [.int .i64 (nx : Int), .int .i64 (k : Int), .int .i64 (-y)] rfl rfl (arc_news _ _ _ _) (arc_one (nx : Int) (k : Int) (-y)) ?qc3 ?qc4 ?qc5 ?_)
        case qc3 => unfold maxLen; omega
        case qc4 => omega
        case qc5 => have := hin2.out.2.size; simp; omega
        intro v' w2 hown' hgrow _hnil
        clear _hnil
        have hex : Ext W1 w2 := ext_grow (hin2.out.2.alc _) hgrow (fun b' hb' => (World.ownsRow.lt hown b' hb').1) (Nat.le_refl _)
        have HN2 := Lib.hid (And.intro hown' hex)
        clear hown' hex hgrow hown
        go_wp2
        go_roundw
        case rel =>
          refine ⟨k + 1, by go_num, by omega, Lib.hid ⟨?_, HN2.out.2⟩⟩
          have hm : c'.more ri k = y := by rw [HMO.out, ← HY.out]
          have s1 : A1.f k = (nx : Int) := by rw [HA1.out.1]; unfold Cl.cel; dsimp only; rw [hm, if_neg (show ¬ 0 < y by omega)]; rw [HCN.out]
          have s2 : A1.t k = (k : Int) := by rw [HA1.out.1]; unfold Cl.cel; dsimp only; rw [hm, if_neg (show ¬ 0 < y by omega)]
          have s3 : A1.c k = (-y) := by rw [HA1.out.1]; unfold Cl.cel; dsimp only; rw [hm, if_neg (show ¬ 0 < y by omega)]
          rw [acl_succ, s1, s2, s3]
          exact HN2.out.1
        case measure => simp [intOf]; omega
    · have hin2 := hin
      clear hin
      obtain rfl : nx = k := by omega
      have hnl : ¬ (nx : Int) < nx := by omega
      obtain ⟨wo, rfl⟩ : ∃ w, w = wr := ⟨_, rfl⟩
      have HO := hin2
      clear hin2
      have m0 := keepAt HO.out.2 mz HM.out.1
      have m1 := keepAt HO.out.2 mz HM.out.2.1
      have m2 := keepAt HO.out.2 mz HM.out.2.2.1
      have m3 := keepAt HO.out.2 mz HM.out.2.2.2.1
      have m4 := keepAt HO.out.2 mz HM.out.2.2.2.2.1
      have m5 := keepAt HO.out.2 mz HM.out.2.2.2.2.2
      go_wp2_with fail
      refine (pairs_own c' _ _ (HV.out.ext (HB.out.trans HO.out.2)) HVC.out.1).mono ?_
      clear m0 m1 m2 m3 m4 m5
      rintro e w3 ⟨U, rfl, hal, hx⟩
      have hsep : ∀ b, (Value.slice Av nx cv).ownBlock = some b → U.ownBlock ≠ some b := fun b hb hb2 => by
        have h1 := (World.ownsRow.lt HO.out.1 b hb).2; have h2 := (World.ownsRow.lt hal b hb2).1; omega
      obtain ⟨pr, hpr⟩ : ∃ p, p = c'.prs := ⟨_, rfl⟩
      rw [← hpr] at hal hprn'
      have H3 : Hid (w3.ownsRow W1.heap.size 55 3 (.slice Av nx cv) nx (acl A1 nx) ∧ Ext W1 w3 ∧ w3.ownsRow wo.heap.size 55 3 U pr.n (acl pr pr.n) ∧ ∀ b, (Value.slice Av nx cv).ownBlock = some b → U.ownBlock ≠ some b) := Lib.hid ⟨World.ownsRow.ext HO.out.1 hx, HO.out.2.trans hx, hal, hsep⟩
      obtain ⟨AU, cU, rfl⟩ := shape_own hal
      have HPR := Lib.hid hpr
      clear hx HO hal hsep hpr
      go_wp2_with fail
      go_loopw [7, 63] (fun q i wr => ∃ (k : Nat), i = .int .i64 k ∧ k ≤ pr.n ∧ Hid (wr.ownsRow W1.heap.size 55 3 q (nx + 2 * k) (acl A1 nx ++ acl (dbl pr) (2 * k)) ∧ Ext W1 wr ∧ wr.ownsRow wo.heap.size 55 3 (.slice AU pr.n cU) pr.n (acl pr pr.n) ∧ ∀ b, q.ownBlock = some b → (Value.slice AU pr.n cU).ownBlock ≠ some b)) (fun _ i _ => pr.n - (intOf i).toNat)
      case atStart => exact ⟨0, rfl, Nat.zero_le _, Lib.hid ⟨by simpa [acl] using H3.out.1, H3.out.2.1, H3.out.2.2.1, H3.out.2.2.2⟩⟩
      case round =>
        obtain ⟨k, rfl, hk2, hin⟩ := hrel
        obtain ⟨Aw, cw, rfl⟩ := shape_own hin.out.1
        by_cases hlt2 : k < pr.n
        · obtain ⟨bU, oU, rfl, d1, d2, d3⟩ := (Al.own hin.out.2.2.1).arc (Ext.refl wr) hlt2
          obtain ⟨fk, hfk⟩ : ∃ x, x = pr.f k := ⟨_, rfl⟩
          obtain ⟨tk, htk⟩ : ∃ x, x = pr.t k := ⟨_, rfl⟩
          obtain ⟨ck, hck⟩ : ∃ x, x = pr.c k := ⟨_, rfl⟩
          rw [← hfk] at d1; rw [← htk] at d2; rw [← hck] at d3
          have HFT := Lib.hid (And.intro hfk (And.intro htk hck))
          clear hfk htk hck
          have hx2 := Ext.alc (Ext.alc (Ext.refl wr) (.cells #[.int .i64 fk, .int .i64 tk, .int .i64 ck] 55)) (.cells #[.int .i64 fk, .int .i64 tk, .int .i64 ck, .int .i64 tk, .int .i64 fk, .int .i64 ck] 55)
          have hown := World.ownsRow.ext hin.out.1 hx2
          have HU2 := Lib.hid (World.ownsRow.ext hin.out.2.2.1 hx2)
          clear hx2
          go_wp2_with (at_builtin; refine wpList_append_own_at _ rfl _ _ 43 rfl W1.heap.size 55 i0 (.agg #[.int .i64 0, .int .i64 0, .int .i64 0]) 3 24 Try.underlying43 HI.out.1 HI.out.2.1 HI.out.2.2.1 HI.out.2.2.2 rfl (by decide) _ (nx + 2 * k) _ rfl hown ⟨wr.heap.size + 1, 0, none⟩ 2 2 [.int .i64 fk, .int .i64 tk, .int .i64 ck, .int .i64 tk, .int .i64 fk, .int .i64 ck] rfl rfl ?qc1 (arc_one2 fk tk ck tk fk ck) ?qc3 ?qc4 ?qc5 ?_)
          case qc1 =>
            have h := arc_news2 (wr.alloc (.cells #[.int .i64 fk, .int .i64 tk, .int .i64 ck] 55)) (.int .i64 fk) (.int .i64 tk) (.int .i64 ck) (.int .i64 tk) (.int .i64 fk) (.int .i64 ck)
            simp only [World.size_alloc] at h
            exact h
          case qc3 => unfold maxLen; omega
          case qc4 => omega
          case qc5 => have := hin.out.2.1.size; simp; omega
          intro v' w2 hown' hgrow _hnil hat
          clear _hnil
          have hex : Ext W1 w2 := ext_grow ((hin.out.2.1.alc _).alc _) hgrow (fun b' hb' => (World.ownsRow.lt hown b' hb').1) (Nat.le_refl _)
          have hu3 := ownsRow_far HU2.out hgrow (fun b hb hb2 => hin.out.2.2.2 b hb2 hb)
          have hse : ∀ b, v'.ownBlock = some b → (Value.slice (some ⟨bU, oU, none⟩) pr.n cU).ownBlock ≠ some b := fun b hb hb2 => by
            rcases hat with e | e
            · exact hin.out.2.2.2 b (by rw [← e]; exact hb) hb2
            · rw [e] at hb
              injection hb with hb
              have := (World.ownsRow.lt HU2.out b hb2).2
              simp only [World.size_alloc] at this hb
              omega
          have HN2 := Lib.hid (And.intro hown' (And.intro hex (And.intro hu3 hse)))
          clear hown' hex hgrow hown d1 d2 d3 hu3 hse hat
          go_wp2
          go_roundw
          case rel =>
            refine ⟨k + 1, by go_num, by omega, Lib.hid ⟨?_, HN2.out.2⟩⟩
            rw [acl_dbl, ← HFT.out.1, ← HFT.out.2.1, ← HFT.out.2.2, ← List.append_assoc]
            rw [show nx + 2 * (k + 1) = nx + 2 * k + 2 by omega]
            simpa only [List.append_assoc] using HN2.out.1
          case measure => simp [intOf]; omega
        · obtain rfl : k = pr.n := by omega
          have hAl : wr.ownsRow W1.heap.size 55 3 (.slice Aw (nx + 2 * pr.n) cw) (c'.nwa ri).n (acl (c'.nwa ri) (c'.nwa ri).n) := by
            have e1 : c'.nwa ri = join A1 (dbl pr) := by rw [HA1.out.1, HPR.out]; rfl
            have e2 : (join A1 (dbl pr)).n = A1.n + 2 * pr.n := rfl
            rw [e1, e2, acl_join2, HA1.out.2]
            exact hin.out.1
          have han : (c'.nwa ri).n = nx + 2 * pr.n := by
            have e1 : c'.nwa ri = join A1 (dbl pr) := by rw [HA1.out.1, HPR.out]; rfl
            rw [e1]; show A1.n + 2 * pr.n = _; rw [HA1.out.2]
          have HX := Lib.hid hin.out.2.1
          have HOW := Lib.hid hAl
          have hO : (c'.nwa ri).Ok (nx + 2) 2000000 := by rw [← HCN.out]; exact HOK.out
          have HO2 := Lib.hid hO
          obtain ⟨na, hna⟩ : ∃ a, a = c'.nwa ri := ⟨_, rfl⟩
          rw [← hna] at HOW HO2 han
          have HNA := Lib.hid hna
          have hn200 : na.n ≤ 160 := by omega
          have m0 := keepAt HX.out mz HM.out.1
          have m1 := keepAt HX.out mz HM.out.2.1
          obtain ⟨N, hN⟩ : ∃ N, N = nx + 2 := ⟨_, rfl⟩
          obtain ⟨T, hT⟩ : ∃ T, T = nx + 1 := ⟨_, rfl⟩
          have hN2 : (nx : Int) + 2 = (N : Int) := by omega
          have hT2 : (nx : Int) + 1 = (T : Int) := by omega
          have hN40 : N ≤ 40 := by omega
          rw [← hN] at HO2
          have HNT := Lib.hid (And.intro hN hT)
          try simp only [hT2]
          clear hin hAl hO hna han hN hT
          have HOW2 : Hid (Al wr (.slice Aw (nx + 2 * pr.n) cw) na) := Lib.hid (Al.own HOW.out)
          have HN3 := Lib.hid (And.intro hN2 hT2)
          clear hN2 hT2 hprn' hk2 hlt2 hlt hk hnl m0 m1
          go_upto_region 16 with fail
          have m0 := keepAt HX.out mz HM.out.1
          have m1 := keepAt HX.out mz HM.out.2.1
          have hN2 := HN3.out.1
          have hT2 := HN3.out.2
          go_wp2_with fail
          refine (newNetwork_any na N nx T 2000000 _ _ HOW2.out HO2.out (by omega) (by omega)).mono ?_
          clear m0 m1 hN2 hT2
          rintro e w4 ⟨SV, rfl, hsl, hx⟩
          have hsl2 : Sl w4 (W.heap.size + 1 + 1) SV N (stf na.nw na.n) := by
            obtain ⟨b, c, e, hb, h0, hc⟩ := hsl
            have hsx := HX.out.size
            refine ⟨b, c, e, hb, by omega, fun i hi => ?_⟩
            obtain ⟨z, h1, h2, h3⟩ := hc i hi
            exact ⟨z, h1, h2, fun b' hb' => by have := h3 b' hb'; omega⟩
          have HSL := Lib.hid hsl2
          have HOW4 := Lib.hid (World.ownsRow.ext HOW.out hx)
          have EX := Lib.hid (HX.out.trans hx)
          obtain ⟨gs, cs, rfl, -, -, -⟩ := hsl
          obtain ⟨p0, p1, p2, p3, p4, p5⟩ := four ((Below.block EX.out (W.heap.size + 1) zlt).trans HH.out)
          clear hsl2 hx
          go_wp2
          refine bodyPost_ret (v := .agg #[.int .i64 nx, .int .i64 T, .slice Aw (nx + 2 * pr.n) cw, .slice (some ⟨gs, 0, none⟩) N cs]) (by simp [results, Try.results14, go_sem, p0, p1, p2, p3]) rfl ?_
          have hk : ∀ g, g ≠ W.heap.size + 1 → ((((w4.setCell ⟨W.heap.size + 1, 0, none⟩ (.int .i64 nx)).setCell ⟨W.heap.size + 1, 1, none⟩ (.int .i64 T)).setCell ⟨W.heap.size + 1, 2, none⟩ (.slice Aw (nx + 2 * pr.n) cw)).setCell ⟨W.heap.size + 1, 3, none⟩ (.slice (some ⟨gs, 0, none⟩) N cs)).heap[g]? = w4.heap[g]? := fun g hg => by
            rw [Below.heap_setCell _ _ _ g hg, Below.heap_setCell _ _ _ g hg, Below.heap_setCell _ _ _ g hg, Below.heap_setCell _ _ _ g hg]
          have hT3 : (T : Int) = (nx : Int) + 1 := by rw [HNT.out.2]; rfl
          rw [hT3, ← HNA.out, ← HNT.out.1]
          refine ⟨_, _, rfl, ?_, ?_, ?_⟩
          · refine Al.own (a := na) (base := W1.heap.size) ?_
            rw [← hT3]
            obtain ⟨h1, h2 | ⟨g, cap, cur, e, hg, hh, rest⟩⟩ := HOW4.out
            · exact ⟨h1, .inl h2⟩
            · exact ⟨h1, .inr ⟨g, cap, cur, e, hg, (hk g (by omega)).trans hh, rest⟩⟩
          · rw [← hT3]
            exact HSL.out.keep (by simp [World.setCell]) fun b hb => hk b (by omega)
          · exact ((((HB.out.trans EX.out).sc (by omega)).sc (by omega)).sc (by omega)).sc (by omega)
end Go.Proofs.Ytilcbbdmenknfab
