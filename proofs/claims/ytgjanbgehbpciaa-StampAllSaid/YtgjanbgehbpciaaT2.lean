/- Walks: Backward of ints; next. -/
import Derived.Test.YtgjanbgehbpciaaT1
import Derived.Test.YtgjanbgehbpciaaE2
import Derived.Test.YtgjanbgehbpciaaF3
namespace Go.Proofs.Ytgjanbgehbpciaa
open Go.RowKit Go.Shelf
attribute [local go_sem] Oper.semAt_some

/-- an index below N, and a value -/
abbrev IxV (N : Nat) := { x : Nat × Int // x.1 < N }
def encI {N : Nat} (x : IxV N) : Array Value := #[.int .i64 (x.1.1 : Int), .int .i64 x.1.2]
/-- what a round keeps -/
def Kn (n₀ bc : Nat) (X Y : World) : Prop := (∀ b, b < n₀ → b ≠ bc → Y.heap[b]? = X.heap[b]?) ∧ (∀ l, Ar3 X bc l → ∃ l', l'.length = l.length ∧ Ar3 Y bc l')
theorem Kn.refl (n₀ bc : Nat) (X : World) : Kn n₀ bc X X := ⟨fun _ _ _ => rfl, fun l h => ⟨l, rfl, h⟩⟩
theorem Kn.trans {n₀ bc : Nat} {X Y Z : World} (h : Kn n₀ bc X Y) (k : Kn n₀ bc Y Z) : Kn n₀ bc X Z :=
  ⟨fun b hb hne => (k.1 b hb hne).trans (h.1 b hb hne), fun l hl => by
    obtain ⟨l1, e1, h1⟩ := h.2 l hl
    obtain ⟨l2, e2, h2⟩ := k.2 l1 h1
    exact ⟨l2, e2.trans e1, h2⟩⟩
theorem Kn.put {n₀ bc : Nat} (hbc : bc < n₀) (W : World) (l : Nat) (o o' : Obj) (hl : n₀ ≤ l) (h : W.heap[l]? = some o) : Kn n₀ bc W (W.putObj l o') := by
  have hlt := (Array.getElem?_eq_some_iff.1 h).1
  have hg := grownBy_putObj' W l o'
  refine ⟨fun b hb _ => hg.block b (by omega) (fun e => by injection e; omega), fun k hk => ⟨k, rfl, (hg.block bc (by omega) (fun e => by injection e; omega)).trans hk⟩⟩
theorem Kn.cell {n₀ bc : Nat} {X Y : World} (h : Kn n₀ bc X Y) {b : Nat} {t : TypeId} {v : Value} (hb : b < n₀) (hne : b ≠ bc) (hc : Boxed X b t v) : Boxed Y b t v := (h.1 b hb hne).trans hc
/-- the indices from the last on, k of them -/
def dn (N k : Nat) (pre : List (IxV N)) : Prop := pre.map (fun x => x.1.1) = (List.range k).map (fun i => N - 1 - i)
theorem dn.snoc {N k : Nat} {pre : List (IxV N)} (h : dn N k pre) {x : IxV N} (hx : x.1.1 = N - 1 - k) : dn N (k + 1) (pre ++ [x]) := by
  unfold dn at *
  rw [List.map_append, h, List.range_succ, List.map_append]
  simp [hx]
theorem dn.len {N k : Nat} {pre : List (IxV N)} (h : dn N k pre) : pre.length = k := by
  have := congrArg List.length h
  simpa using this

set_option maxHeartbeats 2000000 in
set_option maxRecDepth 100000 in
theorem back1_in (n : Nat) (hn : 1 ≤ n) (l Bs n₀ bc N cap : Nat) (hN : N ≤ 1000) (hb : bc < n₀) (hBs : Bs < n₀) (hne : Bs ≠ bc) (J Jx : List (IxV N) → World → Prop)
    (hY : ∀ pre x W, J pre W → pre.length < N → YieldAt Fence.wide (n - 1) Try.prog l (encI x) W fun e W' => (e = .returned (.bool true) ∧ J (pre ++ [x]) W' ∧ Kn n₀ bc W W') ∨ (e = .returned (.bool false) ∧ Jx (pre ++ [x]) W'))
    (W : World) (hs : Boxed W Bs 22 (.slice (some ⟨bc, 0, none⟩) N cap)) (hc : ∃ cs, cs.length = N ∧ Ar3 W bc cs) (h0 : J [] W) :
    CallsIn Fence.wide n Try.prog 107 #[.func (.yield l) #[] #[], .pointer (some ⟨Bs, 0, none⟩)] W fun e W' => (∃ v, e = .returned v) ∧ ((∃ xs, dn N N xs ∧ J xs W') ∨ (∃ pre, (∃ k, k ≤ N ∧ dn N k pre) ∧ Jx pre W')) := by
  have HY := Lib.hid hY; have HS := Lib.hid hs; have HC := Lib.hid hc; have H0 := Lib.hid h0
  clear hY hc h0
  have c0 := hs.cell
  clear hs
  refine callsIn_of_wp Try.func107 rfl trivial ?_ rfl
  simp only [Try.ntmps107, List.size_toArray, List.length_cons, List.length_nil, Nat.reduceAdd, Nat.reduceSub, Array.replicate_succ, Array.replicate_zero, List.push_toArray, List.append_toArray, List.nil_append, List.cons_append]
  gi_wp2
  clear c0
  gi_loopw [3] (fun p wr => ∃ (rem : Nat) (pre : List (IxV N)), p = .int .i64 ((rem : Int) - 1) ∧ rem ≤ N ∧ Hid (dn N (N - rem) pre) ∧ Hid (J pre wr) ∧ Hid (Kn n₀ bc W wr)) (fun p _ => (intOf p + 1).toNat)
  case atStart => exact ⟨N, [], rfl, Nat.le_refl _, Lib.hid (by unfold dn; simp), H0, Lib.hid (Kn.refl _ _ _)⟩
  case round =>
    obtain ⟨rem, pre, rfl, hrem, hdn, hj, hk⟩ := hrel
    have c0 := (hk.out.cell hBs hne HS.out).cell
    cases rem with
    | zero =>
      have e0 : ((0 : Nat) : Int) - 1 = -1 := rfl
      rw [e0]
      clear c0
      gi_wp2
      go_end0
      exact ⟨⟨_, rfl⟩, .inl ⟨pre, by have := hdn.out; rwa [Nat.sub_zero] at this, hj.out⟩⟩
    | succ r =>
      have e0 : ((r + 1 : Nat) : Int) - 1 = (r : Int) := by omega
      rw [e0]
      clear e0
      have hrN : r < N := hrem
      obtain ⟨cs, hcl, hcs⟩ : ∃ cs, cs.length = N ∧ Ar3 wr bc cs := by
        obtain ⟨l0, h1, h2⟩ := HC.out
        obtain ⟨l1, h3, h4⟩ := hk.out.2 l0 h2
        exact ⟨l1, h3.trans h1, h4⟩
      have c1 := hcs.cell (j := r) (by omega)
      obtain ⟨v, hv⟩ : ∃ v, v = cs.getD r 0 := ⟨_, rfl⟩
      rw [← hv] at c1
      have hx : dn N (N - r) (pre ++ [⟨(r, v), hrN⟩]) := by
        have := hdn.out.snoc (x := ⟨(r, v), hrN⟩) (by show r = N - 1 - (N - (r + 1)); omega)
        rwa [show N - (r + 1) + 1 = N - r by omega] at this
      obtain ⟨fn, tmps, assign, body, hy, hR⟩ := HY.out pre ⟨(r, v), hrN⟩ wr hj.out (by rw [hdn.out.len]; omega)
      unfold encI at hy
      dsimp only at hy
      have HX := Lib.hid hx; have HR := Lib.hid hR
      clear hx hR hv hcs hcl
      gi_wp2
      refine HR.out.mono ?_
      rintro e W3 (⟨rfl, hJ3, hk3⟩ | ⟨rfl, hJx3⟩)
      · have HJ3 := Lib.hid hJ3; have HK3 := Lib.hid (hk.out.trans hk3); clear hJ3 hk3 c0 c1 hy
        gi_wp2
        go_roundw
        case rel => exact ⟨r, _, rfl, by omega, HX, HJ3, HK3⟩
        case measure => simp [intOf]
      · have HJ3 := Lib.hid hJx3; clear hJx3 c0 c1 hy
        gi_wp2
        refine bodyPost_ret (results_none (by kernel_rfl) _ _ _) rfl ?_
        exact ⟨⟨_, rfl⟩, .inr ⟨_, ⟨N - r, by omega, HX.out⟩, HJ3.out⟩⟩

theorem back_c (A : Option Addr) (n c : Nat) (W : World) : Calls Try.prog 94 #[.slice A n c] W fun e W' => e = .returned (.func (.func 107) #[] #[.pointer (some ⟨W.heap.size, 0, none⟩)]) ∧ W' = W.alloc (.cells #[.slice A n c] 22) := by
  go_enter Try.func94, Try.ntmps94
  go_wp2
  go_ret
  exact ⟨rfl, rfl⟩

theorem back_stops (n : Nat) (hn : 1 ≤ n) (Bs n₀ bc N cap : Nat) (hN : N ≤ 1000) (hb : bc < n₀) (hBs : Bs < n₀) (hne : Bs ≠ bc) (w : World) (hle : n₀ ≤ w.heap.size) (hs : Boxed w Bs 22 (.slice (some ⟨bc, 0, none⟩) N cap)) (hc : ∃ cs, cs.length = N ∧ Ar3 w bc cs) :
    SeqStopsK Fence.wide n Try.prog 107 #[.pointer (some ⟨Bs, 0, none⟩)] (fun x : IxV N => encI x) (Kn n₀ bc) (fun xs => dn N N xs) (fun pre => ∃ k, k ≤ N ∧ dn N k pre) N w := fun l J Jx W hW _ _ hY h0 => by
  have hs' : Boxed W Bs 22 (.slice (some ⟨bc, 0, none⟩) N cap) := (Below.block hW Bs (by omega)).trans hs
  have hc' : ∃ cs, cs.length = N ∧ Ar3 W bc cs := by obtain ⟨cs, h1, h2⟩ := hc; exact ⟨cs, h1, (Below.block hW bc (by omega)).trans h2⟩
  exact back1_in n hn l Bs n₀ bc N cap hN hb hBs hne J Jx hY W hs' hc' h0

/-- the rounds so far, each with a last colour -/
inductive Run (c : Nat) {N : Nat} (cs : List Int) : List (IxV N) → List Int → Prop
  | nil : Run c cs [] cs
  | snoc {pre : List (IxV N)} {l : List Int} {x : IxV N} : Run c cs pre l → ¬ l.getD x.1.1 0 + 1 < (c : Int) → Run c cs (pre ++ [x]) (l.set x.1.1 0)
theorem Run.len {c N : Nat} {cs l : List Int} {pre : List (IxV N)} (h : Run c cs pre l) : l.length = cs.length := by
  induction h with
  | nil => rfl
  | snoc _ _ ih => rw [List.length_set, ih]
theorem Run.bd {c N : Nat} {cs l : List Int} {pre : List (IxV N)} (h : Run c cs pre l) (hc : 1 ≤ c) (hb : ∀ x ∈ cs, 0 ≤ x ∧ x < (c : Int)) : ∀ x ∈ l, 0 ≤ x ∧ x < (c : Int) := by
  induction h with
  | nil => exact hb
  | snoc _ _ ih =>
    intro x hx
    rcases List.mem_or_eq_of_mem_set hx with h1 | h1
    · exact ih x h1
    · subst h1; omega
theorem snoc_inj {α : Type} {a b : List α} {x y : α} (h : a ++ [x] = b ++ [y]) : a = b ∧ x = y := by
  have := List.append_inj' h rfl
  simpa using this
theorem nxt_skip (c : Nat) : ∀ (a b : List Int), (nxt c b).1 = true → nxt c (a ++ b) = (true, a ++ (nxt c b).2)
  | [], b, h => by rw [List.nil_append, List.nil_append, ← h]
  | x :: a, b, h => by
    rw [List.cons_append, nxt, nxt_skip c a b h]
    simp
theorem run_nxt {c N : Nat} {cs : List Int} (hN : cs.length = N) : ∀ (k : Nat) (pre : List (IxV N)) (l : List Int), k ≤ N → dn N k pre → Run c cs pre l → nxt c (cs.drop (N - k)) = (false, List.replicate k 0) ∧ l = cs.take (N - k) ++ List.replicate k 0 := by
  intro k
  induction k with
  | zero =>
    intro pre l _ hd hr
    have : pre = [] := List.eq_nil_of_length_eq_zero hd.len
    subst this
    have hl : l = cs := by
      generalize hp : ([] : List (IxV N)) = q at hr
      cases hr with
      | nil => rfl
      | snoc _ _ => simp at hp
    subst hl
    subst hN
    simp [nxt]
  | succ k ih =>
    intro pre l hk hd hr
    cases hr with
    | nil => have := hd.len; simp at this
    | @snoc pre' l' x hr' hx =>
      have hlen := hd.len
      rw [List.length_append, List.length_singleton] at hlen
      have hd2 : pre'.map (fun x => x.1.1) ++ [x.1.1] = (List.range k).map (fun i => N - 1 - i) ++ [N - 1 - k] := by
        have := hd
        unfold dn at this
        rwa [List.map_append, List.range_succ, List.map_append] at this
      obtain ⟨hd', hxi⟩ := snoc_inj hd2
      obtain ⟨i1, i2⟩ := ih pre' l' (by omega) hd' hr'
      obtain ⟨r, hr⟩ : ∃ r, N = r + (k + 1) := ⟨N - (k + 1), by omega⟩
      have e1 : N - (k + 1) = r := by omega
      have e2 : N - k = r + 1 := by omega
      have e3 : N - 1 - k = r := by omega
      rw [e3] at hxi
      rw [e2] at i1 i2
      rw [e1]
      have hrl : r < cs.length := by omega
      have hdr : cs.drop r = cs[r] :: cs.drop (r + 1) := List.drop_eq_getElem_cons hrl
      have hget : l'.getD r 0 = cs[r] := by
        rw [i2, List.getD_eq_getElem?_getD, List.getElem?_append_left (by rw [List.length_take]; omega), List.getElem?_take, if_pos (by omega), List.getElem?_eq_getElem hrl]; rfl
      rw [hxi, hget] at hx
      rw [hxi]
      constructor
      · rw [hdr, nxt, i1]
        simp only [Bool.false_eq_true, if_false, if_neg hx]
        rw [List.replicate_succ]
      · rw [i2, List.take_succ_eq_append_getElem hrl, List.append_assoc, List.set_append_right _ _ (by rw [List.length_take]; omega), List.length_take, Nat.min_eq_left (by omega), Nat.sub_self]
        simp [List.replicate_succ]
theorem run_stop {c N : Nat} {cs l : List Int} (hN : cs.length = N) {k : Nat} {pre : List (IxV N)} {x : IxV N} (hk : k ≤ N) (hd : dn N k (pre ++ [x])) (hr : Run c cs pre l) (hx : l.getD x.1.1 0 + 1 < (c : Int)) :
    nxt c cs = (true, l.set x.1.1 (l.getD x.1.1 0 + 1)) := by
  have hlen := hd.len
  rw [List.length_append, List.length_singleton] at hlen
  obtain ⟨j, rfl⟩ : ∃ j, k = j + 1 := ⟨k - 1, by omega⟩
  have hd2 : pre.map (fun x => x.1.1) ++ [x.1.1] = (List.range j).map (fun i => N - 1 - i) ++ [N - 1 - j] := by
    have := hd
    unfold dn at this
    rwa [List.map_append, List.range_succ, List.map_append] at this
  obtain ⟨hd', hxi⟩ := snoc_inj hd2
  obtain ⟨i1, i2⟩ := run_nxt (c := c) hN j pre l (by omega) hd' hr
  obtain ⟨r, hr⟩ : ∃ r, N = r + (j + 1) := ⟨N - (j + 1), by omega⟩
  have e2 : N - j = r + 1 := by omega
  have e3 : N - 1 - j = r := by omega
  rw [e3] at hxi
  rw [e2] at i1 i2
  have hrl : r < cs.length := by omega
  have hdr : cs.drop r = cs[r] :: cs.drop (r + 1) := List.drop_eq_getElem_cons hrl
  have hget : l.getD r 0 = cs[r] := by
    rw [i2, List.getD_eq_getElem?_getD, List.getElem?_append_left (by rw [List.length_take]; omega), List.getElem?_take, if_pos (by omega), List.getElem?_eq_getElem hrl]; rfl
  rw [hxi, hget] at hx
  rw [hxi, hget]
  have h1 : nxt c (cs.drop r) = (true, (cs[r] + 1) :: List.replicate j 0) := by
    rw [hdr, nxt, i1]
    simp only [Bool.false_eq_true, if_false, if_pos hx]
  have h2 := nxt_skip c (cs.take r) (cs.drop r) (by rw [h1])
  rw [List.take_append_drop, h1] at h2
  rw [h2, i2, List.take_succ_eq_append_getElem hrl, List.append_assoc, List.set_append_right _ _ (by rw [List.length_take]; omega), List.length_take, Nat.min_eq_left (by omega), Nat.sub_self]
  simp
end Go.Proofs.Ytgjanbgehbpciaa
