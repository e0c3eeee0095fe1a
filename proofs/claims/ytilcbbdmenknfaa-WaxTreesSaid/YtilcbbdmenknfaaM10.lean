/- Walks: the law's net. · What comes in: a net, a slice of numbers, a slice of flags. · Webs: every arc in both directions: mathematics. · Walks: Value, Flow, awake. -/
import Derived.Test.YtilcbbdmenknfaaM9
import Derived.ProofKit
import Derived.OpenShut
import Derived.ChangeOld
import Derived.Below
import Derived.Lib.SmallJoins
import Derived.Deep.Slices
namespace Go.Proofs.Ytilcbbdmenknfaa
open Go.RowKit

/-- the cells of the first k arcs -/
def acl (a : Ar) (k : Nat) : List Value := (List.range k).flatMap fun j => [.int .i64 (a.f j), .int .i64 (a.t j), .int .i64 (a.c j)]
theorem acl_len (a : Ar) (k : Nat) : (acl a k).length = k * 3 := by
  induction k with
  | zero => rfl
  | succ k ih => unfold acl at ih ⊢; rw [List.range_succ, List.flatMap_append, List.length_append, ih]; simp; omega
theorem acl_succ (a : Ar) (k : Nat) : acl a (k + 1) = acl a k ++ [.int .i64 (a.f k), .int .i64 (a.t k), .int .i64 (a.c k)] := by unfold acl; rw [List.range_succ, List.flatMap_append]; simp
theorem acl_get (a : Ar) : ∀ {k j : Nat}, j < k → (acl a k)[j * 3]? = some (.int .i64 (a.f j)) ∧ (acl a k)[j * 3 + 1]? = some (.int .i64 (a.t j)) ∧ (acl a k)[j * 3 + 2]? = some (.int .i64 (a.c j)) := by
  intro k
  induction k with
  | zero => intro j hj; omega
  | succ k ih =>
    intro j hj
    rw [acl_succ]
    have hl := acl_len a k
    by_cases e : j = k
    · subst e
      rw [List.getElem?_append_right (by omega), List.getElem?_append_right (by omega), List.getElem?_append_right (by omega), hl]
      refine ⟨?_, ?_, ?_⟩
      · rw [show j * 3 - j * 3 = 0 by omega]; rfl
      · rw [show j * 3 + 1 - j * 3 = 1 by omega]; rfl
      · rw [show j * 3 + 2 - j * 3 = 2 by omega]; rfl
    · rw [List.getElem?_append_left (by omega), List.getElem?_append_left (by omega), List.getElem?_append_left (by omega)]
      exact ih (by omega)
theorem Al.own {W : World} {base : Nat} {v : Value} {a : Ar} (h : W.ownsRow base 65 3 v a.n (acl a a.n)) : Al W v a := by
  obtain ⟨hl, ⟨rfl, h0⟩ | ⟨g, cap, cur, rfl, hg, hh, h1, h2, h3, h4⟩⟩ := h
  · exact ⟨none, 0, by rw [h0], by omega, by omega, fun hp => by omega⟩
  · refine ⟨_, cap, rfl, h1, by simp only [maxLen] at h2; omega, fun hp => ⟨g, 0, rfl, (Array.getElem?_eq_some_iff.1 hh).1, fun j hj => ?_⟩⟩
    have key : ∀ i u, (acl a a.n)[i]? = some u → i < a.n * 3 → W.cell? ⟨g, 0 + i, none⟩ = some u := by
      intro i u hu hi
      rw [← h4, List.getElem?_take, if_pos hi] at hu
      rw [Nat.zero_add, cell_of_row W g i cur 65 (0, 0) hh]
      simpa using hu
    obtain ⟨k1, k2, k3⟩ := acl_get a hj
    exact ⟨key _ _ k1 (by omega), key _ _ k2 (by omega), key _ _ k3 (by omega)⟩
/-- the first arcs -/
def Ar.cut (a : Ar) (k : Nat) : Ar := ⟨min a.n k, a.f, a.t, a.c⟩
theorem vNet_cut (N : Int) (a : Ar) : vNet N (a.cut 162) = vNet N a := by
  by_cases h : a.n ≤ 160
  · have e : a.cut 162 = a := by unfold Ar.cut; cases a; simp at *; omega
    rw [e]
  · have h1 : vNet N a = false := by unfold vNet; rw [decide_eq_false h, Bool.and_false, Bool.false_and]
    have h2 : vNet N (a.cut 162) = false := by
      unfold vNet
      have : ¬ (a.cut 162).n ≤ 160 := by show ¬ min a.n 162 ≤ 160; omega
      rw [decide_eq_false this, Bool.and_false, Bool.false_and]
    rw [h1, h2]
theorem vNet_same {N : Int} {a : Ar} (h : vNet N a = true) : a.cut 162 = a := by
  have := (vNet_iff.1 h).2.1
  unfold Ar.cut; cases a; simp at *; omega

theorem two {w : World} {b : Nat} {t : TypeId} {x0 x1 : Value} (h : w.heap[b]? = some (.cells #[x0, x1] t (0, 0))) : w.cell? ⟨b, 0, none⟩ = some x0 ∧ w.cell? ⟨b, 1, none⟩ = some x1 ∧ (∀ o, w.frozen? ⟨b, o, none⟩ = false) ∧ b < w.heap.size :=
  ⟨cell_of_row w b 0 _ _ (0, 0) h, cell_of_row w b 1 _ _ (0, 0) h, fun o => by simp [World.frozen?, h], (Array.getElem?_eq_some_iff.1 h).1⟩
set_option maxRecDepth 100000 in
theorem info65 : (Try.prog.info? 65).map (fun i => (i.zero, i.size, i.bytes)) = some (some (.agg #[.int .i64 0, .int .i64 0, .int .i64 0]), 3, 24) := by kernel_rfl

set_option maxHeartbeats 4000000 in
set_option maxRecDepth 100000 in
theorem net_any (N : Int) (a : Ar) (AV : Value) (W : World) (hA : Al W AV a) :
    Calls Try.prog 16 #[.agg #[.int .i64 N, AV]] W fun e W' => ∃ v, e = .returned (.agg #[.int .i64 N, v]) ∧ Al W' v (a.cut 162) ∧ W'.ownsRow W.heap.size 65 3 v (min a.n 162) (acl a (min a.n 162)) ∧ Ext W W' := by
  have HA := Lib.hid hA
  obtain ⟨A, c, rfl, hac, hcm, -⟩ := hA
  obtain ⟨i0, hi, hz0, hz1, hz2⟩ := info_parts info65
  go_enter Try.func16, Try.ntmps16
  go_wp2_with fail
  go_loopw [12] (fun i wr => ∃ (k : Nat) (v : Value), i = .int .i64 k ∧ k ≤ a.n ∧ k ≤ 162 ∧ Hid (wr.heap[W.heap.size + 1]? = some (.cells #[.int .i64 0, .slice none 0 0] 30 (0, 0)) ∧ wr.heap[W.heap.size + 1 + 1]? = some (.cells #[.int .i64 N, v] 30 (0, 0)) ∧
    wr.ownsRow (W.heap.size + 1 + 1 + 1) 65 3 v k (acl a k) ∧ Ext W wr)) (fun i _ => a.n - (intOf i).toNat)
  case atStart =>
    refine ⟨0, .slice none 0 0, rfl, Nat.zero_le _, Nat.zero_le _, Lib.hid ⟨?_, ?_, World.ownsRow_nil _ _ _ _, al3 W _ _ _⟩⟩
    · have := heap_alloc_new (W.alloc (.cells #[.int .i64 N, .slice A a.n c] 24)) (.cells #[.int .i64 0, .slice none 0 0] 30)
      simp only [World.size_alloc] at this
      exact (Below.heap_alloc _ _ _ (by simp)).trans this
    · have := heap_alloc_new ((W.alloc (.cells #[.int .i64 N, .slice A a.n c] 24)).alloc (.cells #[.int .i64 0, .slice none 0 0] 30)) (.cells #[.int .i64 N, .slice none 0 0] 30)
      simp only [World.size_alloc] at this
      exact this
  case round =>
    obtain ⟨k, v, rfl, hk, hk2, hin⟩ := hrel
    have fin : k = min a.n 162 → True := fun _ => trivial
    obtain ⟨p0, p1, p2, p3⟩ := two hin.out.1
    obtain ⟨m0, m1, m2, m3⟩ := two hin.out.2.1
    have hvs : ∃ A n c, v = .slice A n c := by
      obtain ⟨-, ⟨rfl, -⟩ | ⟨g, cap, cur, rfl, -⟩⟩ := hin.out.2.2.1
      · exact ⟨_, _, _, rfl⟩
      · exact ⟨_, _, _, rfl⟩
    obtain ⟨Av, nv, cv, rfl⟩ := hvs
    clear fin
    have done : k = min a.n 162 → ∀ X Y : World, Ext wr X → Y = ((X.setCell ⟨W.heap.size + 1, 0, none⟩ (.int .i64 N)).setCell ⟨W.heap.size + 1, 1, none⟩ (.slice Av nv cv)) →
        Al Y (.slice Av nv cv) (a.cut 162) ∧ Y.ownsRow W.heap.size 65 3 (.slice Av nv cv) (min a.n 162) (acl a (min a.n 162)) ∧ Ext W Y := by
      rintro hkm X Y hX rfl
      have hex : Ext W ((X.setCell ⟨W.heap.size + 1, 0, none⟩ (.int .i64 N)).setCell ⟨W.heap.size + 1, 1, none⟩ (.slice Av nv cv)) := ((hin.out.2.2.2.trans hX).sc (by omega)).sc (by omega)
      have ho := World.ownsRow.ext hin.out.2.2.1 hX
      rw [hkm] at ho
      have ho2 : ((X.setCell ⟨W.heap.size + 1, 0, none⟩ (.int .i64 N)).setCell ⟨W.heap.size + 1, 1, none⟩ (.slice Av nv cv)).ownsRow (W.heap.size + 1 + 1 + 1) 65 3 (.slice Av nv cv) (min a.n 162) (acl a (min a.n 162)) := by
        obtain ⟨h1, h2 | ⟨g, cap, cur, e, hg, hh, rest⟩⟩ := ho
        · exact ⟨h1, .inl h2⟩
        · exact ⟨h1, .inr ⟨g, cap, cur, e, hg, (Below.heap_setCell _ ⟨W.heap.size + 1, 1, none⟩ _ g (by show g ≠ W.heap.size + 1; omega)).trans ((Below.heap_setCell _ ⟨W.heap.size + 1, 0, none⟩ _ g (by show g ≠ W.heap.size + 1; omega)).trans hh), rest⟩⟩
      refine ⟨Al.own (a := a.cut 162) ho2, ⟨ho2.1, ho2.2.imp id fun ⟨g, cap, cur, e, hg, rest⟩ => ⟨g, cap, cur, e, by omega, rest⟩⟩, hex⟩
    have HD := Lib.hid done; clear done
    by_cases hlt : k < a.n
    · obtain ⟨b, off, rfl, d1, d2, d3⟩ := HA.out.arc hin.out.2.2.2 hlt
      obtain ⟨fk, hfk⟩ : ∃ x, x = a.f k := ⟨_, rfl⟩
      obtain ⟨tk, htk⟩ : ∃ x, x = a.t k := ⟨_, rfl⟩
      obtain ⟨ck, hck⟩ : ∃ x, x = a.c k := ⟨_, rfl⟩
      rw [← hfk] at d1; rw [← htk] at d2; rw [← hck] at d3
      have HFT := Lib.hid (And.intro hfk (And.intro htk hck))
      clear hfk htk hck
      by_cases h161 : k = 162
      · have h2 : (161 : Int) < k := by omega
        clear HFT
        have hD2 := HD.out (by omega)
        have HD2 := Lib.hid hD2
        clear hD2 HD h161
        go_upto_region 8 with fail
        have hX : Ext wr (wr.alloc (.cells #[.int .i64 fk, .int .i64 tk, .int .i64 ck] 64)) := Ext.alc (Ext.refl wr) _
        generalize wr.alloc (.cells #[.int .i64 fk, .int .i64 tk, .int .i64 ck] 64) = X at *
        obtain ⟨p0, p1, p2, p3⟩ := two ((Below.block hX _ p3).trans hin.out.1)
        obtain ⟨m0, m1, m2, m3⟩ := two ((Below.block hX _ m3).trans hin.out.2.1)
        have HX := Lib.hid hX
        clear hX
        go_wp2
        refine bodyPost_ret (v := .agg #[.int .i64 N, .slice Av nv cv]) (by simp [results, Try.results16, go_sem, p0, p1]) rfl ?_
        exact ⟨_, rfl, HD2.out _ _ HX.out rfl⟩
      · have h2 : ¬ (161 : Int) < k := by omega
        have hown := World.ownsRow.ext hin.out.2.2.1 (Ext.alc (Ext.alc (Ext.refl wr) (.cells #[.int .i64 fk, .int .i64 tk, .int .i64 ck] 64)) (.cells #[.int .i64 fk, .int .i64 tk, .int .i64 ck] 65))
        clear p0 p1 p2
        go_wp2_with (at_builtin; refine wpList_append_own _ rfl _ _ 28 rfl (W.heap.size + 1 + 1 + 1) 65 i0 (.agg #[.int .i64 0, .int .i64 0, .int .i64 0]) 3 24 Try.underlying28 hi hz0 hz1 hz2 rfl (by decide) _ k _ rfl hown ⟨wr.heap.size + 1, 0, none⟩ 1 1 [.int .i64 fk, .int .i64 tk, .int .i64 ck] rfl rfl ?c1 ?c2 ?c3 ?c4 ?c5 ?_)
        case c2 => exact ⟨rfl, rfl, rfl⟩
        case c3 => unfold maxLen; omega
        case c4 => omega
        case c5 => omega
        intro v' w2 hown' hgrow hnil
        clear hnil
        have hvs : ∃ A n c, v' = .slice A n c := by
          obtain ⟨-, ⟨rfl, -⟩ | ⟨g, cap, cur, rfl, -⟩⟩ := hown'
          · exact ⟨_, _, _, rfl⟩
          · exact ⟨_, _, _, rfl⟩
        obtain ⟨Aw, nw, cw, rfl⟩ := hvs
        have hob : ∀ g, (Value.slice Av nv cv).ownBlock = some g → W.heap.size + 1 + 1 + 1 ≤ g := fun g hg => (World.ownsRow.lt hown g hg).1
        have hkeep : ∀ g, g < W.heap.size + 1 + 1 + 1 → w2.heap[g]? = wr.heap[g]? := fun g hg => (hgrow.block g (by simp; omega) (fun e => by have := hob g e.symm; omega)).trans ((Below.heap_alloc _ _ g (by simp; omega)).trans (Below.heap_alloc _ _ g (by omega)))
        have e1 := (hkeep (W.heap.size + 1) (by omega)).trans hin.out.1
        have e2 := (hkeep (W.heap.size + 1 + 1) (by omega)).trans hin.out.2.1
        obtain ⟨n0, n1, n2, n3⟩ := two e2
        have hex : Ext W w2 := ⟨hgrow.os.trans hin.out.2.2.2.os, hgrow.tape.trans hin.out.2.2.2.tape, hgrow.output.trans hin.out.2.2.2.output, by have h1 := hgrow.size; have h2 := hin.out.2.2.2.size; simp at h1; omega, fun g hg => (hkeep g (by omega)).trans (hin.out.2.2.2.block g hg)⟩
        have HN := Lib.hid (And.intro e1 (And.intro e2 (And.intro hown' hex)))
        clear e1 e2 hown' hex hgrow hkeep hob hown m0 m1 m2 d1 d2 d3
        go_wp2
        go_roundw
        case rel =>
          obtain ⟨e1, e2, ho, hex⟩ := HN.out
          refine ⟨k + 1, .slice Aw nw cw, by go_num, by omega, by omega, Lib.hid ⟨(Below.heap_setCell w2 ⟨W.heap.size + 1 + 1, 1, none⟩ _ (W.heap.size + 1) (by simp)).trans e1, ?_, ?_, hex.sc (by omega)⟩⟩
          · simp [World.setCell, Array.getElem?_modify, e2]
          · rw [acl_succ, ← HFT.out.1, ← HFT.out.2.1, ← HFT.out.2.2]
            obtain ⟨h1, h2 | ⟨g, cap, cur, e, hg, hh, rest⟩⟩ := ho
            · exact ⟨h1, .inl h2⟩
            · exact ⟨h1, .inr ⟨g, cap, cur, e, hg, (Below.heap_setCell _ ⟨W.heap.size + 1 + 1, 1, none⟩ _ g (by show g ≠ W.heap.size + 1 + 1; omega)).trans hh, rest⟩⟩
        case measure => simp [intOf]; omega
    · obtain rfl : k = a.n := by omega
      have hD2 := HD.out (by omega)
      have HD2 := Lib.hid hD2
      clear hD2 HD
      go_wp2
      refine bodyPost_ret (v := .agg #[.int .i64 N, .slice Av nv cv]) (by simp [results, Try.results16, go_sem, p0, p1]) rfl ?_
      exact ⟨_, rfl, HD2.out _ _ (Ext.refl wr) rfl⟩
end Go.Proofs.Ytilcbbdmenknfaa
namespace Go.Proofs.Ytilcbbdmenknfaa
open Go.ChangeShapes Go.WideShapes Go.ChangeAt Go.RowKit Go.Joins Go.Deep

theorem own_ : ownKnob Try.prog.godebug = none := by kernel_rfl
theorem laidOut_ : laidOutB Try.prog = true := by kernel_rfl
theorem cells3 : Try.prog.cellsOf 3 = 1 := by kernel_rfl
theorem cells4 : Try.prog.cellsOf 4 = 1 := by kernel_rfl
theorem cells24 : Try.prog.cellsOf 24 = 2 := by kernel_rfl
theorem cells64 : Try.prog.cellsOf 64 = 3 := by kernel_rfl

theorem add_lit (b off j : Nat) : (⟨b, off, none⟩ : Addr).add j = ⟨b, off + j, none⟩ := by unfold Addr.add; split <;> simp_all
theorem add_none {w : World} {a : Addr} {v : Value} (h : w.cell? (a.add 0) = some v) : a.spot = none ∧ a.block < w.heap.size := by
  obtain ⟨b, off, spot⟩ := a
  have hs : spot = none := by simpa [Addr.add] using World.cell?_spot h
  have hb := World.block_lt_of_cell? w _ h
  exact ⟨hs, by simpa [Addr.add] using hb⟩

set_option maxRecDepth 1000000 in
theorem open_arcs_in {H : Type} {enc : TypeId × Value → H} {W : World} {base : Nat} {spare : Nat → Bool} {held : Bool} {n : Nat} {v : Value} {x : DataW H × List MemPlace}
    (h : DataW.trod enc Try.prog W base spare held n 22 [v] = some x) : ∃ a : Ar, Al W v a := by
  rcases open_slice Try.underlying22 h with ⟨hcs, -⟩ | ⟨a, len, cap, m, k, D, Pl, hcs, -, hl, hm, hmm, -, hx⟩
  · simp at hcs
    subst hcs
    exact ⟨⟨0, fun _ => 0, fun _ => 0, fun _ => 0⟩, none, 0, rfl, Nat.le_refl _, by omega, fun hp => absurd hp (Nat.lt_irrefl _)⟩
  · simp at hcs
    subst hcs
    have hlm : len ≤ m := by rw [hmm]; split <;> omega
    rw [cells64] at hx
    have each : ∀ i, i < m → ∃ q : Int × Int × Int, W.cell? ((a.add (i * 3)).add 0) = some (.int .i64 q.1) ∧ W.cell? ((a.add (i * 3)).add 1) = some (.int .i64 q.2.1) ∧ W.cell? ((a.add (i * 3)).add 2) = some (.int .i64 q.2.2) := by
      intro i hi
      obtain ⟨cs, h1, h2⟩ := hx i hi
      obtain ⟨-, hlen, hc⟩ := World.cells?_some h1
      obtain ⟨xs, k', -, -, -, hxl, hf⟩ := DataW.trod_struct Try.underlying64 h2
      match cs, hlen, xs, hxl with
      | [v0, v1, v2], _, [y0, y1, y2], _ =>
        have g0 := hf 0 _ rfl
        have g1 := hf 1 _ rfl
        have g2 := hf 2 _ rfl
        simp [cells3] at g0 g1 g2
        obtain ⟨z0, e0, -⟩ := DataW.trod_int Try.underlying3 (show _ = some y0 from g0)
        obtain ⟨z1, e1, -⟩ := DataW.trod_int Try.underlying3 (show _ = some y1 from g1)
        obtain ⟨z2, e2, -⟩ := DataW.trod_int Try.underlying3 (show _ = some y2 from g2)
        simp at e0 e1 e2
        subst e0 e1 e2
        exact ⟨(z0, z1, z2), hc 0 (by omega), hc 1 (by omega), hc 2 (by omega)⟩
    obtain ⟨Q, hQ⟩ := choose_lt (α := Int × Int × Int) each
    refine ⟨⟨len, fun i => (Q i).1, fun i => (Q i).2.1, fun i => (Q i).2.2⟩, some a, cap, rfl, hl, by unfold maxLen at hm; omega, fun hp => ?_⟩
    have h0 := hQ 0 (Nat.lt_of_lt_of_le hp hlm)
    obtain ⟨b, off, spot⟩ := a
    have hs := add_none h0.1
    simp [Addr.add] at hs
    obtain ⟨rfl, hb⟩ := hs
    refine ⟨b, off, rfl, hb, fun j hj => ?_⟩
    obtain ⟨k0, k1, k2⟩ := hQ j (Nat.lt_of_lt_of_le hj hlm)
    rw [add_lit, add_lit] at k0 k1 k2
    exact ⟨k0, k1, k2⟩

set_option maxRecDepth 1000000 in
theorem open_net_in {H : Type} {enc : TypeId × Value → H} {W : World} {r : Reach} {b0 base : Nat} {spare : Nat → Bool} {held : Bool} {v : Value} {d : DataW H} {p : List MemPlace} (hv : Value.okWide Try.prog W r b0 24 v)
    (h : DataW.Trod enc Try.prog W base spare held 24 v d p) : ∃ (N : Int) (A : Value) (a : Ar), v = .agg #[.int .i64 N, A] ∧ Al W A a := by
  obtain ⟨c0, c1, y0, y1, m, rfl, -, -, hy0, hy1⟩ := open_agg2 Try.underlying24 (by kernel_rfl) cells24 hv h
  obtain ⟨N, e0, -⟩ := DataW.trod_int Try.underlying3 hy0
  simp at e0
  subst e0
  obtain ⟨a, ha⟩ := open_arcs_in hy1
  exact ⟨N, c1, a, rfl, ha⟩

set_option maxRecDepth 1000000 in
theorem open_list_in {α : Type} [Inhabited α] (mk : α → Value) {H : Type} {enc : TypeId × Value → H} {W : World} {base : Nat} {spare : Nat → Bool} {held : Bool} {t e : TypeId} {n : Nat} {v : Value} {x : DataW H × List MemPlace}
    (ht : Try.prog.underlying t = some (.slice e)) (hc : Try.prog.cellsOf e = 1) (hmk : ∀ (n : Nat) (u : Value) (y : DataW H × List MemPlace), DataW.trod enc Try.prog W base spare held n e [u] = some y → ∃ z, u = mk z)
    (h : DataW.trod enc Try.prog W base spare held n t [v] = some x) : ∃ (n : Nat) (f : Nat → α), Vl W v n (fun j => mk (f j)) := by
  rcases open_slice1 ht hc h with ⟨hcs, -⟩ | ⟨a, len, cap, m, k, V, D, Pl, hcs, -, hl, hm, hmm, -, hx⟩
  · simp at hcs
    subst hcs
    exact ⟨0, fun _ => default, none, 0, rfl, Nat.le_refl _, by omega, fun hp => absurd hp (Nat.lt_irrefl _)⟩
  · simp at hcs
    subst hcs
    have hlm : len ≤ m := by rw [hmm]; split <;> omega
    obtain ⟨f, hf⟩ := choose_lt (α := α) (p := fun i z => V i = mk z) (fun i hi => hmk _ _ _ (hx i hi).2)
    refine ⟨len, f, some a, cap, rfl, hl, by unfold maxLen at hm; omega, fun hp => ?_⟩
    have h0 := (hx 0 (Nat.lt_of_lt_of_le hp hlm)).1
    obtain ⟨b, off, spot⟩ := a
    have hs := add_none h0
    simp at hs
    obtain ⟨rfl, hb⟩ := hs
    refine ⟨b, off, rfl, hb, fun j hj => ?_⟩
    have h1 := (hx j (Nat.lt_of_lt_of_le hj hlm)).1
    rw [add_lit] at h1
    rw [h1, hf j (Nat.lt_of_lt_of_le hj hlm)]

set_option maxRecDepth 1000000 in
theorem open_ints_in {H : Type} {enc : TypeId × Value → H} {W : World} {r : Reach} {b0 base : Nat} {spare : Nat → Bool} {held : Bool} {v : Value} {d : DataW H} {p : List MemPlace} (hv : Value.okWide Try.prog W r b0 33 v)
    (h : DataW.Trod enc Try.prog W base spare held 33 v d p) : ∃ (n : Nat) (x : Nat → Int), Il W v n x := by
  obtain ⟨A, n, c, rfl⟩ := okWide_slice Try.underlying33 hv
  obtain ⟨m, hm⟩ := h
  exact open_list_in (fun z => .int .i64 z) Try.underlying33 cells3 (fun n u y hy => by obtain ⟨z, e, -⟩ := DataW.trod_int Try.underlying3 hy; simp at e; exact ⟨z, e⟩) hm
set_option maxRecDepth 1000000 in
theorem open_flags_in {H : Type} {enc : TypeId × Value → H} {W : World} {r : Reach} {b0 base : Nat} {spare : Nat → Bool} {held : Bool} {v : Value} {d : DataW H} {p : List MemPlace} (hv : Value.okWide Try.prog W r b0 40 v)
    (h : DataW.Trod enc Try.prog W base spare held 40 v d p) : ∃ (n : Nat) (x : Nat → Bool), Bl W v n x := by
  obtain ⟨A, n, c, rfl⟩ := okWide_slice Try.underlying40 hv
  obtain ⟨m, hm⟩ := h
  exact open_list_in (fun z => .bool z) Try.underlying40 cells4 (fun n u y hy => by obtain ⟨z, e, -⟩ := DataW.trod_bool Try.underlying4 hy; simp at e; exact ⟨z, e⟩) hm
end Go.Proofs.Ytilcbbdmenknfaa
namespace Go.Proofs.Ytilcbbdmenknfaa

/-- every arc, and behind it the same one back -/
def dbl (a : Ar) : Ar := ⟨2 * a.n, fun k => if k % 2 = 0 then a.f (k / 2) else a.t (k / 2), fun k => if k % 2 = 0 then a.t (k / 2) else a.f (k / 2), fun k => a.c (k / 2)⟩
theorem dbl_ok {a : Ar} {N : Nat} {M : Int} (h : a.Ok N M) : (dbl a).Ok N M := by
  have hk : ∀ k, k < (dbl a).n → k / 2 < a.n := fun k hk => by have : k < 2 * a.n := hk; omega
  refine ⟨fun k h1 => ?_, fun k h1 => ?_, fun k h1 => ?_, fun k h1 => ?_, fun k h1 => ?_, fun k h1 => h.c0 _ (hk k h1), fun k h1 => h.cM _ (hk k h1)⟩
  · show 0 ≤ if k % 2 = 0 then a.f (k / 2) else a.t (k / 2); split; exact h.f0 _ (hk k h1); exact h.t0 _ (hk k h1)
  · show (if k % 2 = 0 then a.f (k / 2) else a.t (k / 2)) < (N : Int); split; exact h.fN _ (hk k h1); exact h.tN _ (hk k h1)
  · show 0 ≤ if k % 2 = 0 then a.t (k / 2) else a.f (k / 2); split; exact h.t0 _ (hk k h1); exact h.f0 _ (hk k h1)
  · show (if k % 2 = 0 then a.t (k / 2) else a.f (k / 2)) < (N : Int); split; exact h.tN _ (hk k h1); exact h.fN _ (hk k h1)
  · show (if k % 2 = 0 then a.f (k / 2) else a.t (k / 2)) ≠ if k % 2 = 0 then a.t (k / 2) else a.f (k / 2); split; exact h.ne _ (hk k h1); exact fun e => h.ne _ (hk k h1) e.symm
theorem acl_dbl (a : Ar) (k : Nat) : acl (dbl a) (2 * (k + 1)) = acl (dbl a) (2 * k) ++ [.int .i64 (a.f k), .int .i64 (a.t k), .int .i64 (a.c k), .int .i64 (a.t k), .int .i64 (a.f k), .int .i64 (a.c k)] := by
  have e0 : (2 * k) % 2 = 0 := by omega
  have e1 : ¬ (2 * k + 1) % 2 = 0 := by omega
  have e2 : 2 * k / 2 = k := by omega
  have e3 : (2 * k + 1) / 2 = k := by omega
  rw [show 2 * (k + 1) = 2 * k + 1 + 1 by omega, acl_succ, acl_succ]
  simp only [dbl, e0, e1, e2, e3, if_true, if_false, List.append_assoc]
  rfl
theorem sm_pair (n : Nat) (g : Nat → Int) : sm (2 * n) g = sm n fun k => g (2 * k) + g (2 * k + 1) := by
  induction n with
  | zero => rfl
  | succ n ih => rw [show 2 * (n + 1) = 2 * n + 1 + 1 by omega]; simp only [sm]; rw [ih]; omega
/-- what lies across S -/
def across (a : Ar) (S : Nat → Bool) : Int := sm a.n fun k => if S (a.f k).toNat = S (a.t k).toNat then 0 else a.c k
theorem ct_dbl (a : Ar) (S : Nat → Bool) : (dbl a).nw.ct S = across a S := by
  have e0 : ∀ k, (2 * k) % 2 = 0 := by omega
  have e1 : ∀ k, ¬ (2 * k + 1) % 2 = 0 := by omega
  have e2 : ∀ k, 2 * k / 2 = k := by omega
  have e3 : ∀ k, (2 * k + 1) / 2 = k := by omega
  have h : (dbl a).nw.ct S = sm (2 * a.n) fun k => if S ((dbl a).f k).toNat = true ∧ S ((dbl a).t k).toNat = false then (dbl a).c k else 0 := rfl
  rw [h, sm_pair]
  refine sm_congr fun k _ => ?_
  simp only [dbl, e0, e1, e2, e3, if_true, if_false]
  cases S (a.f k).toNat <;> cases S (a.t k).toNat <;> simp
theorem across_not (a : Ar) (S : Nat → Bool) : across a (fun i => !S i) = across a S := by
  refine sm_congr fun k _ => ?_
  show (if (!S (a.f k).toNat) = (!S (a.t k).toNat) then 0 else a.c k) = if S (a.f k).toNat = S (a.t k).toNat then 0 else a.c k
  generalize S (a.f k).toNat = p
  generalize S (a.t k).toNat = q
  cases p <;> cases q <;> rfl
theorem Mc.flip {a : Ar} {u v : Nat} {c : Int} (h : Mc (dbl a).nw u v c) : Mc (dbl a).nw v u c := by
  refine ⟨?_, fun S hS => ?_⟩
  · obtain ⟨S, h1, h2⟩ := h.is
    refine ⟨fun i => !S i, ⟨by simp [h1.2], by simp [h1.1]⟩, ?_⟩
    rw [ct_dbl] at h2 ⊢
    rw [across_not, h2]
  · have := h.le (fun i => !S i) ⟨by simp [hS.2], by simp [hS.1]⟩
    rw [ct_dbl] at this ⊢
    rwa [across_not] at this
theorem Mc.three {G : Nw} {u v w : Nat} {x y z : Int} (h1 : Mc G u v x) (h2 : Mc G v w y) (h3 : Mc G u w z) : x ≤ z ∨ y ≤ z := by
  obtain ⟨S, hS, rfl⟩ := h3.is
  cases hv : S v
  · exact .inl (h1.le S ⟨hS.1, hv⟩)
  · exact .inr (h2.le S ⟨hv, hS.2⟩)

/-- do the arguments of Cut fit? -/
def cutOk (N : Int) (a : Ar) (u v : Int) : Bool := (vNet N a && decide (N ≤ 12)) && bw u 0 (N - 1) && bw v 0 (N - 1) && !decide (u = v)
end Go.Proofs.Ytilcbbdmenknfaa
namespace Go.Proofs.Ytilcbbdmenknfaa
open Go.RowKit

set_option maxHeartbeats 4000000 in
set_option maxRecDepth 100000 in
theorem valueS_any (N : Int) (a : Ar) (AV : Value) (W : World) (hA : Al W AV a) :
    Calls Try.prog 15 #[.agg #[.int .i64 N, AV]] W fun e W' => ∃ v er : Int, e = .returned (.tuple #[.int .i64 v, .int .i64 er]) ∧ Ext W W' ∧
      ((vNet N a = false ∧ v = 0 ∧ er = 2) ∨ (vNet N a = true ∧ er = 0 ∧ Mc a.nw 0 (N.toNat - 1) v)) := by
  have HA := Lib.hid hA
  obtain ⟨A, c, rfl, hac, hcm, -⟩ := hA
  go_enter Try.func15, Try.ntmps15
  go_upto_region 1 with fail
  have bb := al1 W (.cells #[.int .i64 N, .slice A a.n c] 30)
  have m0 : (W.alloc (.cells #[.int .i64 N, .slice A a.n c] 30)).cell? ⟨W.heap.size, 0, none⟩ = some (.int .i64 N) := by rw [World.cell?_alloc_new]; rfl
  have m1 : (W.alloc (.cells #[.int .i64 N, .slice A a.n c] 30)).cell? ⟨W.heap.size, 1, none⟩ = some (.slice A a.n c) := by rw [World.cell?_alloc_new]; rfl
  have zz : W.heap.size < (W.alloc (.cells #[.int .i64 N, .slice A a.n c] 30)).heap.size := by simp
  generalize W.alloc (.cells #[.int .i64 N, .slice A a.n c] 30) = W1 at *
  have HB : Hid (Ext W W1) := Lib.hid bb
  clear bb
  go_wp2_with fail
  refine (isNet_any N a _ _ (HA.out.ext HB.out)).mono ?_
  rintro e w1 ⟨rfl, hx⟩
  replace m0 := keepAt hx zz m0
  replace m1 := keepAt hx zz m1
  have HX : Hid (Ext W w1) := Lib.hid (HB.out.trans hx)
  clear hx
  cases hv : vNet N a
  · have HV := Lib.hid hv; clear hv
    go_wp2
    refine bodyPost_ret (v := .tuple #[.int .i64 0, .int .i64 2]) (by simp [results, Try.results15, go_sem]) rfl ⟨0, 2, rfl, HX.out, .inl ⟨HV.out, rfl, rfl⟩⟩
  · obtain ⟨m, rfl, hm2, hm40, hn, hok⟩ := vNet_ok hv
    have HOK := Lib.hid hok; have HV := Lib.hid hv
    clear hv hok
    go_wp2_with fail
    refine (filled_any m a _ _ (HA.out.ext HX.out) HOK.out (by omega) hm2 (by omega)).mono ?_
    rintro e w2 ⟨x, gl, SV, rfl, -, hbi, hfull, -, hx⟩
    have HX2 := Lib.hid (HX.out.trans hx)
    have HFULL := Lib.hid hfull; have HBI := Lib.hid hbi
    clear hx m0 m1 hbi hfull
    go_wp2_with fail
    refine (value_any a m 0 ((m - 1 : Nat) : Int) (2 * a.n) 1000000 _ SV gl x _ (HA.out.ext HX2.out) HOK.out (by omega) (by omega) rfl HBI.out HFULL.out.fp.rs).mono ?_
    rintro e w3 ⟨rfl, hx⟩
    have HX3 := Lib.hid (HX2.out.trans hx)
    clear hx
    go_wp2
    refine bodyPost_ret (v := .tuple #[.int .i64 (a.nw.sp (Nw.fw x) 0), .int .i64 0]) (by simp [results, Try.results15, go_sem]) rfl ⟨_, 0, rfl, HX3.out, .inr ⟨HV.out, rfl, ?_⟩⟩
    have := HFULL.out.mc HOK.out.in_ (by omega) (by omega)
    rw [Int.toNat_natCast]
    exact this

set_option maxHeartbeats 4000000 in
set_option maxRecDepth 100000 in
theorem flowS_any (N : Int) (a : Ar) (AV : Value) (W : World) (hA : Al W AV a) :
    Calls Try.prog 18 #[.agg #[.int .i64 N, AV]] W fun e W' => ∃ (F : Value) (er : Int), e = .returned (.tuple #[F, .int .i64 er]) ∧ Ext W W' ∧
      ((vNet N a = false ∧ F = .slice none 0 0 ∧ er = 2) ∨ (vNet N a = true ∧ er = 0 ∧ ∃ g f, F = .slice (some ⟨g, 0, none⟩) a.n a.n ∧ W.heap.size ≤ g ∧ BI W' g a.n f ∧ a.nw.Fl N.toNat 0 (N.toNat - 1) f ∧ Mc a.nw 0 (N.toNat - 1) (a.nw.sp f 0))) := by
  have HA := Lib.hid hA
  obtain ⟨A, c, rfl, hac, hcm, -⟩ := hA
  go_enter Try.func18, Try.ntmps18
  go_upto_region 1 with fail
  have bb := al1 W (.cells #[.int .i64 N, .slice A a.n c] 30)
  have m0 : (W.alloc (.cells #[.int .i64 N, .slice A a.n c] 30)).cell? ⟨W.heap.size, 0, none⟩ = some (.int .i64 N) := by rw [World.cell?_alloc_new]; rfl
  have m1 : (W.alloc (.cells #[.int .i64 N, .slice A a.n c] 30)).cell? ⟨W.heap.size, 1, none⟩ = some (.slice A a.n c) := by rw [World.cell?_alloc_new]; rfl
  have zz : W.heap.size < (W.alloc (.cells #[.int .i64 N, .slice A a.n c] 30)).heap.size := by simp
  generalize W.alloc (.cells #[.int .i64 N, .slice A a.n c] 30) = W1 at *
  have HB : Hid (Ext W W1) := Lib.hid bb
  clear bb
  go_wp2_with fail
  refine (isNet_any N a _ _ (HA.out.ext HB.out)).mono ?_
  rintro e w1 ⟨rfl, hx⟩
  replace m0 := keepAt hx zz m0
  replace m1 := keepAt hx zz m1
  have HX : Hid (Ext W w1) := Lib.hid (HB.out.trans hx)
  clear hx
  cases hv : vNet N a
  · have HV := Lib.hid hv; clear hv
    go_wp2
    refine bodyPost_ret (v := .tuple #[.slice none 0 0, .int .i64 2]) (by simp [results, Try.results18, go_sem]) rfl ⟨_, 2, rfl, HX.out, .inl ⟨HV.out, rfl, rfl⟩⟩
  · obtain ⟨m, rfl, hm2, hm40, hn, hok⟩ := vNet_ok hv
    have HOK := Lib.hid hok; have HV := Lib.hid hv
    clear hv hok
    go_wp2_with fail
    refine (filled_any m a _ _ (HA.out.ext HX.out) HOK.out (by omega) hm2 (by omega)).mono ?_
    rintro e w2 ⟨x, gl, SV, rfl, -, hbi, hfull, -, hx⟩
    have HX2 := Lib.hid (HX.out.trans hx)
    have HFULL := Lib.hid hfull; have HBI := Lib.hid hbi
    clear hx m0 m1 hbi hfull
    go_wp2_with fail
    refine (flow_any a (0 : Nat) ((m - 1 : Nat) : Int) (2 * a.n) _ SV gl x _ (HA.out.ext HX2.out) (by omega) rfl HBI.out).mono ?_
    rintro e w3 ⟨g, rfl, hg, hbf, hx⟩
    have HX3 := Lib.hid (HX2.out.trans hx)
    have HBF := Lib.hid hbf
    have hsz := HX2.out.size
    clear hx hbf
    go_wp2
    refine bodyPost_ret (v := .tuple #[.slice (some ⟨g, 0, none⟩) a.n a.n, .int .i64 0]) (by simp [results, Try.results18, go_sem]) rfl ⟨_, 0, rfl, HX3.out, .inr ⟨HV.out, rfl, g, Nw.fw x, rfl, by omega, HBF.out, ?_, ?_⟩⟩
    · rw [Int.toNat_natCast]; exact HFULL.out.fp.rs.fl a.nw HFULL.out.fp.cons
    · rw [Int.toNat_natCast]; exact HFULL.out.mc HOK.out.in_ (by omega) (by omega)

set_option maxHeartbeats 4000000 in
set_option maxRecDepth 100000 in
theorem awake_any (W : World) : Calls Try.prog 19 #[] W fun e W' => e = .returned (.bool true) ∧ Ext W W' := by
  go_enter Try.func19, Try.ntmps19
  go_wp2_with fail
  refine (valueS_any 3 aw _ _ ⟨some ⟨W.heap.size, 0, none⟩, 2, rfl, Nat.le_refl _, by omega, fun _ => ⟨W.heap.size, 0, rfl, by simp, fun j hj => ?_⟩⟩).mono ?_
  · have hj' : j < 2 := hj
    rcases (by omega : j = 0 ∨ j = 1) with rfl | rfl
    · refine ⟨?_, ?_, ?_⟩ <;> (rw [World.cell?_alloc_new]; rfl)
    · refine ⟨?_, ?_, ?_⟩ <;> (rw [World.cell?_alloc_new]; rfl)
  · rintro e w1 ⟨v, er, rfl, hx, ⟨hv, -⟩ | ⟨-, rfl, hm⟩⟩
    · rw [aw_v] at hv; cases hv
    · have h2 := aw_two hm
      subst h2
      have HX : Hid (Ext W w1) := Lib.hid ((Ext.alc (Ext.refl W) _).trans hx)
      clear hx hm
      go_wp2
      go_ret
      exact ⟨rfl, HX.out⟩
end Go.Proofs.Ytilcbbdmenknfaa
