/- Walks: the law's net. · What comes in: a net, a slice of numbers, a slice of flags. · Flows and sides by tests: mathematics. -/
import Derived.Test.YtilcbbdmenknfaaM9
import Derived.ProofKit
import Derived.OpenShut
import Derived.ChangeOld
import Derived.Below
import Derived.Lib.SmallJoins
import Derived.Deep.Slices
namespace Go.Proofs.Ytilcbbdmenknfaa
open Go.RowKit

/-- the cells of the first k arcs -/
def acl (a : Ar) (k : Nat) : List Value := (List.range k).flatMap fun j => [.int .i64 (a.f j), .int .i64 (a.t j), .int .i64 (a.c j)]
theorem acl_len (a : Ar) (k : Nat) : (acl a k).length = k * 3 := by
  induction k with
  | zero => rfl
  | succ k ih => unfold acl at ih ⊢; rw [List.range_succ, List.flatMap_append, List.length_append, ih]; simp; omega
theorem acl_succ (a : Ar) (k : Nat) : acl a (k + 1) = acl a k ++ [.int .i64 (a.f k), .int .i64 (a.t k), .int .i64 (a.c k)] := by unfold acl; rw [List.range_succ, List.flatMap_append]; simp
theorem acl_get (a : Ar) : ∀ {k j : Nat}, j < k → (acl a k)[j * 3]? = some (.int .i64 (a.f j)) ∧ (acl a k)[j * 3 + 1]? = some (.int .i64 (a.t j)) ∧ (acl a k)[j * 3 + 2]? = some (.int .i64 (a.c j)) := by
  intro k
  induction k with
  | zero => intro j hj; omega
  | succ k ih =>
    intro j hj
    rw [acl_succ]
    have hl := acl_len a k
    by_cases e : j = k
    · subst e
      rw [List.getElem?_append_right (by omega), List.getElem?_append_right (by omega), List.getElem?_append_right (by omega), hl]
      refine ⟨?_, ?_, ?_⟩
      · rw [show j * 3 - j * 3 = 0 by omega]; rfl
      · rw [show j * 3 + 1 - j * 3 = 1 by omega]; rfl
      · rw [show j * 3 + 2 - j * 3 = 2 by omega]; rfl
    · rw [List.getElem?_append_left (by omega), List.getElem?_append_left (by omega), List.getElem?_append_left (by omega)]
      exact ih (by omega)
theorem Al.own {W : World} {base : Nat} {v : Value} {a : Ar} (h : W.ownsRow base 65 3 v a.n (acl a a.n)) : Al W v a := by
  obtain ⟨hl, ⟨rfl, h0⟩ | ⟨g, cap, cur, rfl, hg, hh, h1, h2, h3, h4⟩⟩ := h
  · exact ⟨none, 0, by rw [h0], by omega, by omega, fun hp => by omega⟩
  · refine ⟨_, cap, rfl, h1, by simp only [maxLen] at h2; omega, fun hp => ⟨g, 0, rfl, (Array.getElem?_eq_some_iff.1 hh).1, fun j hj => ?_⟩⟩
    have key : ∀ i u, (acl a a.n)[i]? = some u → i < a.n * 3 → W.cell? ⟨g, 0 + i, none⟩ = some u := by
      intro i u hu hi
      rw [← h4, List.getElem?_take, if_pos hi] at hu
      rw [Nat.zero_add, cell_of_row W g i cur 65 (0, 0) hh]
      simpa using hu
    obtain ⟨k1, k2, k3⟩ := acl_get a hj
    exact ⟨key _ _ k1 (by omega), key _ _ k2 (by omega), key _ _ k3 (by omega)⟩
/-- the first arcs -/
def Ar.cut (a : Ar) (k : Nat) : Ar := ⟨min a.n k, a.f, a.t, a.c⟩
theorem vNet_cut (N : Int) (a : Ar) : vNet N (a.cut 162) = vNet N a := by
  by_cases h : a.n ≤ 160
  · have e : a.cut 162 = a := by unfold Ar.cut; cases a; simp at *; omega
    rw [e]
  · have h1 : vNet N a = false := by unfold vNet; rw [decide_eq_false h, Bool.and_false, Bool.false_and]
    have h2 : vNet N (a.cut 162) = false := by
      unfold vNet
      have : ¬ (a.cut 162).n ≤ 160 := by show ¬ min a.n 162 ≤ 160; omega
      rw [decide_eq_false this, Bool.and_false, Bool.false_and]
    rw [h1, h2]
theorem vNet_same {N : Int} {a : Ar} (h : vNet N a = true) : a.cut 162 = a := by
  have := (vNet_iff.1 h).2.1
  unfold Ar.cut; cases a; simp at *; omega

theorem two {w : World} {b : Nat} {t : TypeId} {x0 x1 : Value} (h : w.heap[b]? = some (.cells #[x0, x1] t (0, 0))) : w.cell? ⟨b, 0, none⟩ = some x0 ∧ w.cell? ⟨b, 1, none⟩ = some x1 ∧ (∀ o, w.frozen? ⟨b, o, none⟩ = false) ∧ b < w.heap.size :=
  ⟨cell_of_row w b 0 _ _ (0, 0) h, cell_of_row w b 1 _ _ (0, 0) h, fun o => by simp [World.frozen?, h], (Array.getElem?_eq_some_iff.1 h).1⟩
set_option maxRecDepth 100000 in
theorem info65 : (Try.prog.info? 65).map (fun i => (i.zero, i.size, i.bytes)) = some (some (.agg #[.int .i64 0, .int .i64 0, .int .i64 0]), 3, 24) := by kernel_rfl

set_option maxHeartbeats 4000000 in
set_option maxRecDepth 100000 in
theorem net_any (N : Int) (a : Ar) (AV : Value) (W : World) (hA : Al W AV a) :
    Calls Try.prog 16 #[.agg #[.int .i64 N, AV]] W fun e W' => ∃ v, e = .returned (.agg #[.int .i64 N, v]) ∧ Al W' v (a.cut 162) ∧ W'.ownsRow W.heap.size 65 3 v (min a.n 162) (acl a (min a.n 162)) ∧ Ext W W' := by
  have HA := Lib.hid hA
  obtain ⟨A, c, rfl, hac, hcm, -⟩ := hA
  obtain ⟨i0, hi, hz0, hz1, hz2⟩ := info_parts info65
  go_enter Try.func16, Try.ntmps16
  go_wp2_with fail
  go_loopw [12] (fun i wr => ∃ (k : Nat) (v : Value), i = .int .i64 k ∧ k ≤ a.n ∧ k ≤ 162 ∧ Hid (wr.heap[W.heap.size + 1]? = some (.cells #[.int .i64 0, .slice none 0 0] 30 (0, 0)) ∧ wr.heap[W.heap.size + 1 + 1]? = some (.cells #[.int .i64 N, v] 30 (0, 0)) ∧
    wr.ownsRow (W.heap.size + 1 + 1 + 1) 65 3 v k (acl a k) ∧ Ext W wr)) (fun i _ => a.n - (intOf i).toNat)
  case atStart =>
    refine ⟨0, .slice none 0 0, rfl, Nat.zero_le _, Nat.zero_le _, Lib.hid ⟨?_, ?_, World.ownsRow_nil _ _ _ _, al3 W _ _ _⟩⟩
    · have := heap_alloc_new (W.alloc (.cells #[.int .i64 N, .slice A a.n c] 24)) (.cells #[.int .i64 0, .slice none 0 0] 30)
      simp only [World.size_alloc] at this
      exact (Below.heap_alloc _ _ _ (by simp)).trans this
    · have := heap_alloc_new ((W.alloc (.cells #[.int .i64 N, .slice A a.n c] 24)).alloc (.cells #[.int .i64 0, .slice none 0 0] 30)) (.cells #[.int .i64 N, .slice none 0 0] 30)
      simp only [World.size_alloc] at this
      exact this
  case round =>
    obtain ⟨k, v, rfl, hk, hk2, hin⟩ := hrel
    have fin : k = min a.n 162 → True := fun _ => trivial
    obtain ⟨p0, p1, p2, p3⟩ := two hin.out.1
    obtain ⟨m0, m1, m2, m3⟩ := two hin.out.2.1
    have hvs : ∃ A n c, v = .slice A n c := by
      obtain ⟨-, ⟨rfl, -⟩ | ⟨g, cap, cur, rfl, -⟩⟩ := hin.out.2.2.1
      · exact ⟨_, _, _, rfl⟩
      · exact ⟨_, _, _, rfl⟩
    obtain ⟨Av, nv, cv, rfl⟩ := hvs
    clear fin
    have done : k = min a.n 162 → ∀ X Y : World, Ext wr X → Y = ((X.setCell ⟨W.heap.size + 1, 0, none⟩ (.int .i64 N)).setCell ⟨W.heap.size + 1, 1, none⟩ (.slice Av nv cv)) →
        Al Y (.slice Av nv cv) (a.cut 162) ∧ Y.ownsRow W.heap.size 65 3 (.slice Av nv cv) (min a.n 162) (acl a (min a.n 162)) ∧ Ext W Y := by
      rintro hkm X Y hX rfl
      have hex : Ext W ((X.setCell ⟨W.heap.size + 1, 0, none⟩ (.int .i64 N)).setCell ⟨W.heap.size + 1, 1, none⟩ (.slice Av nv cv)) := ((hin.out.2.2.2.trans hX).sc (by omega)).sc (by omega)
      have ho := World.ownsRow.ext hin.out.2.2.1 hX
      rw [hkm] at ho
      have ho2 : ((X.setCell ⟨W.heap.size + 1, 0, none⟩ (.int .i64 N)).setCell ⟨W.heap.size + 1, 1, none⟩ (.slice Av nv cv)).ownsRow (W.heap.size + 1 + 1 + 1) 65 3 (.slice Av nv cv) (min a.n 162) (acl a (min a.n 162)) := by
        obtain ⟨h1, h2 | ⟨g, cap, cur, e, hg, hh, rest⟩⟩ := ho
        · exact ⟨h1, .inl h2⟩
        · exact ⟨h1, .inr ⟨g, cap, cur, e, hg, (Below.heap_setCell _ ⟨W.heap.size + 1, 1, none⟩ _ g (by show g ≠ W.heap.size + 1; omega)).trans ((Below.heap_setCell _ ⟨W.heap.size + 1, 0, none⟩ _ g (by show g ≠ W.heap.size + 1; omega)).trans hh), rest⟩⟩
      refine ⟨Al.own (a := a.cut 162) ho2, ⟨ho2.1, ho2.2.imp id fun ⟨g, cap, cur, e, hg, rest⟩ => ⟨g, cap, cur, e, by omega, rest⟩⟩, hex⟩
    have HD := Lib.hid done; clear done
    by_cases hlt : k < a.n
    · obtain ⟨b, off, rfl, d1, d2, d3⟩ := HA.out.arc hin.out.2.2.2 hlt
      obtain ⟨fk, hfk⟩ : ∃ x, x = a.f k := ⟨_, rfl⟩
      obtain ⟨tk, htk⟩ : ∃ x, x = a.t k := ⟨_, rfl⟩
      obtain ⟨ck, hck⟩ : ∃ x, x = a.c k := ⟨_, rfl⟩
      rw [← hfk] at d1; rw [← htk] at d2; rw [← hck] at d3
      have HFT := Lib.hid (And.intro hfk (And.intro htk hck))
      clear hfk htk hck
      by_cases h161 : k = 162
      · have h2 : (161 : Int) < k := by omega
        clear HFT
        have hD2 := HD.out (by omega)
        have HD2 := Lib.hid hD2
        clear hD2 HD h161
        go_upto_region 8 with fail
        have hX : Ext wr (wr.alloc (.cells #[.int .i64 fk, .int .i64 tk, .int .i64 ck] 64)) := Ext.alc (Ext.refl wr) _
        generalize wr.alloc (.cells #[.int .i64 fk, .int .i64 tk, .int .i64 ck] 64) = X at *
        obtain ⟨p0, p1, p2, p3⟩ := two ((Below.block hX _ p3).trans hin.out.1)
        obtain ⟨m0, m1, m2, m3⟩ := two ((Below.block hX _ m3).trans hin.out.2.1)
        have HX := Lib.hid hX
        clear hX
        go_wp2
        refine bodyPost_ret (v := .agg #[.int .i64 N, .slice Av nv cv]) (by simp [results, Try.results16, go_sem, p0, p1]) rfl ?_
        exact ⟨_, rfl, HD2.out _ _ HX.out rfl⟩
      · have h2 : ¬ (161 : Int) < k := by omega
        have hown := World.ownsRow.ext hin.out.2.2.1 (Ext.alc (Ext.alc (Ext.refl wr) (.cells #[.int .i64 fk, .int .i64 tk, .int .i64 ck] 64)) (.cells #[.int .i64 fk, .int .i64 tk, .int .i64 ck] 65))
        clear p0 p1 p2
        go_wp2_with (at_builtin; refine wpList_append_own _ rfl _ _ 28 rfl (W.heap.size + 1 + 1 + 1) 65 i0 (.agg #[.int .i64 0, .int .i64 0, .int .i64 0]) 3 24 Try.underlying28 hi hz0 hz1 hz2 rfl (by decide) _ k _ rfl hown ⟨wr.heap.size + 1, 0, none⟩ 1 1 [.int .i64 fk, .int .i64 tk, .int .i64 ck] rfl rfl ?c1 ?c2 ?c3 ?c4 ?c5 ?_)
        case c2 => exact ⟨rfl, rfl, rfl⟩
        case c3 => unfold maxLen; omega
        case c4 => omega
        case c5 => omega
        intro v' w2 hown' hgrow hnil
        clear hnil
        have hvs : ∃ A n c, v' = .slice A n c := by
          obtain ⟨-, ⟨rfl, -⟩ | ⟨g, cap, cur, rfl, -⟩⟩ := hown'
          · exact ⟨_, _, _, rfl⟩
          · exact ⟨_, _, _, rfl⟩
        obtain ⟨Aw, nw, cw, rfl⟩ := hvs
        have hob : ∀ g, (Value.slice Av nv cv).ownBlock = some g → W.heap.size + 1 + 1 + 1 ≤ g := fun g hg => (World.ownsRow.lt hown g hg).1
        have hkeep : ∀ g, g < W.heap.size + 1 + 1 + 1 → w2.heap[g]? = wr.heap[g]? := fun g hg => (hgrow.block g (by simp; omega) (fun e => by have := hob g e.symm; omega)).trans ((Below.heap_alloc _ _ g (by simp; omega)).trans (Below.heap_alloc _ _ g (by omega)))
        have e1 := (hkeep (W.heap.size + 1) (by omega)).trans hin.out.1
        have e2 := (hkeep (W.heap.size + 1 + 1) (by omega)).trans hin.out.2.1
        obtain ⟨n0, n1, n2, n3⟩ := two e2
        have hex : Ext W w2 := ⟨hgrow.os.trans hin.out.2.2.2.os, hgrow.tape.trans hin.out.2.2.2.tape, hgrow.output.trans hin.out.2.2.2.output, by have h1 := hgrow.size; have h2 := hin.out.2.2.2.size; simp at h1; omega, fun g hg => (hkeep g (by omega)).trans (hin.out.2.2.2.block g hg)⟩
        have HN := Lib.hid (And.intro e1 (And.intro e2 (And.intro hown' hex)))
        clear e1 e2 hown' hex hgrow hkeep hob hown m0 m1 m2 d1 d2 d3
        go_wp2
        go_roundw
        case rel =>
          obtain ⟨e1, e2, ho, hex⟩ := HN.out
          refine ⟨k + 1, .slice Aw nw cw, by go_num, by omega, by omega, Lib.hid ⟨(Below.heap_setCell w2 ⟨W.heap.size + 1 + 1, 1, none⟩ _ (W.heap.size + 1) (by simp)).trans e1, ?_, ?_, hex.sc (by omega)⟩⟩
          · simp [World.setCell, Array.getElem?_modify, e2]
          · rw [acl_succ, ← HFT.out.1, ← HFT.out.2.1, ← HFT.out.2.2]
            obtain ⟨h1, h2 | ⟨g, cap, cur, e, hg, hh, rest⟩⟩ := ho
            · exact ⟨h1, .inl h2⟩
            · exact ⟨h1, .inr ⟨g, cap, cur, e, hg, (Below.heap_setCell _ ⟨W.heap.size + 1 + 1, 1, none⟩ _ g (by show g ≠ W.heap.size + 1 + 1; omega)).trans hh, rest⟩⟩
        case measure => simp [intOf]; omega
    · obtain rfl : k = a.n := by omega
      have hD2 := HD.out (by omega)
      have HD2 := Lib.hid hD2
      clear hD2 HD
      go_wp2
      refine bodyPost_ret (v := .agg #[.int .i64 N, .slice Av nv cv]) (by simp [results, Try.results16, go_sem, p0, p1]) rfl ?_
      exact ⟨_, rfl, HD2.out _ _ (Ext.refl wr) rfl⟩
end Go.Proofs.Ytilcbbdmenknfaa
namespace Go.Proofs.Ytilcbbdmenknfaa
open Go.ChangeShapes Go.WideShapes Go.ChangeAt Go.RowKit Go.Joins Go.Deep

theorem own_ : ownKnob Try.prog.godebug = none := by kernel_rfl
theorem laidOut_ : laidOutB Try.prog = true := by kernel_rfl
theorem cells3 : Try.prog.cellsOf 3 = 1 := by kernel_rfl
theorem cells4 : Try.prog.cellsOf 4 = 1 := by kernel_rfl
theorem cells24 : Try.prog.cellsOf 24 = 2 := by kernel_rfl
theorem cells64 : Try.prog.cellsOf 64 = 3 := by kernel_rfl

theorem add_lit (b off j : Nat) : (⟨b, off, none⟩ : Addr).add j = ⟨b, off + j, none⟩ := by unfold Addr.add; split <;> simp_all
theorem add_none {w : World} {a : Addr} {v : Value} (h : w.cell? (a.add 0) = some v) : a.spot = none ∧ a.block < w.heap.size := by
  obtain ⟨b, off, spot⟩ := a
  have hs : spot = none := by simpa [Addr.add] using World.cell?_spot h
  have hb := World.block_lt_of_cell? w _ h
  exact ⟨hs, by simpa [Addr.add] using hb⟩

set_option maxRecDepth 1000000 in
theorem open_arcs_in {H : Type} {enc : TypeId × Value → H} {W : World} {base : Nat} {spare : Nat → Bool} {held : Bool} {n : Nat} {v : Value} {x : DataW H × List MemPlace}
    (h : DataW.trod enc Try.prog W base spare held n 22 [v] = some x) : ∃ a : Ar, Al W v a := by
  rcases open_slice Try.underlying22 h with ⟨hcs, -⟩ | ⟨a, len, cap, m, k, D, Pl, hcs, -, hl, hm, hmm, -, hx⟩
  · simp at hcs
    subst hcs
    exact ⟨⟨0, fun _ => 0, fun _ => 0, fun _ => 0⟩, none, 0, rfl, Nat.le_refl _, by omega, fun hp => absurd hp (Nat.lt_irrefl _)⟩
  · simp at hcs
    subst hcs
    have hlm : len ≤ m := by rw [hmm]; split <;> omega
    rw [cells64] at hx
    have each : ∀ i, i < m → ∃ q : Int × Int × Int, W.cell? ((a.add (i * 3)).add 0) = some (.int .i64 q.1) ∧ W.cell? ((a.add (i * 3)).add 1) = some (.int .i64 q.2.1) ∧ W.cell? ((a.add (i * 3)).add 2) = some (.int .i64 q.2.2) := by
      intro i hi
      obtain ⟨cs, h1, h2⟩ := hx i hi
      obtain ⟨-, hlen, hc⟩ := World.cells?_some h1
      obtain ⟨xs, k', -, -, -, hxl, hf⟩ := DataW.trod_struct Try.underlying64 h2
      match cs, hlen, xs, hxl with
      | [v0, v1, v2], _, [y0, y1, y2], _ =>
        have g0 := hf 0 _ rfl
        have g1 := hf 1 _ rfl
        have g2 := hf 2 _ rfl
        simp [cells3] at g0 g1 g2
        obtain ⟨z0, e0, -⟩ := DataW.trod_int Try.underlying3 (show _ = some y0 from g0)
        obtain ⟨z1, e1, -⟩ := DataW.trod_int Try.underlying3 (show _ = some y1 from g1)
        obtain ⟨z2, e2, -⟩ := DataW.trod_int Try.underlying3 (show _ = some y2 from g2)
        simp at e0 e1 e2
        subst e0 e1 e2
        exact ⟨(z0, z1, z2), hc 0 (by omega), hc 1 (by omega), hc 2 (by omega)⟩
    obtain ⟨Q, hQ⟩ := choose_lt (α := Int × Int × Int) each
    refine ⟨⟨len, fun i => (Q i).1, fun i => (Q i).2.1, fun i => (Q i).2.2⟩, some a, cap, rfl, hl, by unfold maxLen at hm; omega, fun hp => ?_⟩
    have h0 := hQ 0 (Nat.lt_of_lt_of_le hp hlm)
    obtain ⟨b, off, spot⟩ := a
    have hs := add_none h0.1
    simp [Addr.add] at hs
    obtain ⟨rfl, hb⟩ := hs
    refine ⟨b, off, rfl, hb, fun j hj => ?_⟩
    obtain ⟨k0, k1, k2⟩ := hQ j (Nat.lt_of_lt_of_le hj hlm)
    rw [add_lit, add_lit] at k0 k1 k2
    exact ⟨k0, k1, k2⟩

set_option maxRecDepth 1000000 in
theorem open_net_in {H : Type} {enc : TypeId × Value → H} {W : World} {r : Reach} {b0 base : Nat} {spare : Nat → Bool} {held : Bool} {v : Value} {d : DataW H} {p : List MemPlace} (hv : Value.okWide Try.prog W r b0 24 v)
    (h : DataW.Trod enc Try.prog W base spare held 24 v d p) : ∃ (N : Int) (A : Value) (a : Ar), v = .agg #[.int .i64 N, A] ∧ Al W A a := by
  obtain ⟨c0, c1, y0, y1, m, rfl, -, -, hy0, hy1⟩ := open_agg2 Try.underlying24 (by kernel_rfl) cells24 hv h
  obtain ⟨N, e0, -⟩ := DataW.trod_int Try.underlying3 hy0
  simp at e0
  subst e0
  obtain ⟨a, ha⟩ := open_arcs_in hy1
  exact ⟨N, c1, a, rfl, ha⟩

set_option maxRecDepth 1000000 in
theorem open_list_in {α : Type} [Inhabited α] (mk : α → Value) {H : Type} {enc : TypeId × Value → H} {W : World} {base : Nat} {spare : Nat → Bool} {held : Bool} {t e : TypeId} {n : Nat} {v : Value} {x : DataW H × List MemPlace}
    (ht : Try.prog.underlying t = some (.slice e)) (hc : Try.prog.cellsOf e = 1) (hmk : ∀ (n : Nat) (u : Value) (y : DataW H × List MemPlace), DataW.trod enc Try.prog W base spare held n e [u] = some y → ∃ z, u = mk z)
    (h : DataW.trod enc Try.prog W base spare held n t [v] = some x) : ∃ (n : Nat) (f : Nat → α), Vl W v n (fun j => mk (f j)) := by
  rcases open_slice1 ht hc h with ⟨hcs, -⟩ | ⟨a, len, cap, m, k, V, D, Pl, hcs, -, hl, hm, hmm, -, hx⟩
  · simp at hcs
    subst hcs
    exact ⟨0, fun _ => default, none, 0, rfl, Nat.le_refl _, by omega, fun hp => absurd hp (Nat.lt_irrefl _)⟩
  · simp at hcs
    subst hcs
    have hlm : len ≤ m := by rw [hmm]; split <;> omega
    obtain ⟨f, hf⟩ := choose_lt (α := α) (p := fun i z => V i = mk z) (fun i hi => hmk _ _ _ (hx i hi).2)
    refine ⟨len, f, some a, cap, rfl, hl, by unfold maxLen at hm; omega, fun hp => ?_⟩
    have h0 := (hx 0 (Nat.lt_of_lt_of_le hp hlm)).1
    obtain ⟨b, off, spot⟩ := a
    have hs := add_none h0
    simp at hs
    obtain ⟨rfl, hb⟩ := hs
    refine ⟨b, off, rfl, hb, fun j hj => ?_⟩
    have h1 := (hx j (Nat.lt_of_lt_of_le hj hlm)).1
    rw [add_lit] at h1
    rw [h1, hf j (Nat.lt_of_lt_of_le hj hlm)]

set_option maxRecDepth 1000000 in
theorem open_ints_in {H : Type} {enc : TypeId × Value → H} {W : World} {r : Reach} {b0 base : Nat} {spare : Nat → Bool} {held : Bool} {v : Value} {d : DataW H} {p : List MemPlace} (hv : Value.okWide Try.prog W r b0 33 v)
    (h : DataW.Trod enc Try.prog W base spare held 33 v d p) : ∃ (n : Nat) (x : Nat → Int), Il W v n x := by
  obtain ⟨A, n, c, rfl⟩ := okWide_slice Try.underlying33 hv
  obtain ⟨m, hm⟩ := h
  exact open_list_in (fun z => .int .i64 z) Try.underlying33 cells3 (fun n u y hy => by obtain ⟨z, e, -⟩ := DataW.trod_int Try.underlying3 hy; simp at e; exact ⟨z, e⟩) hm
set_option maxRecDepth 1000000 in
theorem open_flags_in {H : Type} {enc : TypeId × Value → H} {W : World} {r : Reach} {b0 base : Nat} {spare : Nat → Bool} {held : Bool} {v : Value} {d : DataW H} {p : List MemPlace} (hv : Value.okWide Try.prog W r b0 40 v)
    (h : DataW.Trod enc Try.prog W base spare held 40 v d p) : ∃ (n : Nat) (x : Nat → Bool), Bl W v n x := by
  obtain ⟨A, n, c, rfl⟩ := okWide_slice Try.underlying40 hv
  obtain ⟨m, hm⟩ := h
  exact open_list_in (fun z => .bool z) Try.underlying40 cells4 (fun n u y hy => by obtain ⟨z, e, -⟩ := DataW.trod_bool Try.underlying4 hy; simp at e; exact ⟨z, e⟩) hm
end Go.Proofs.Ytilcbbdmenknfaa
namespace Go.Proofs.Ytilcbbdmenknfaa

/-- does the flow of arc k fit? -/
def inR (a : Ar) (f : Nat → Int) (k : Nat) : Bool := bw (f k) 0 (a.c k)
/-- is it a flow? -/
def isFlB (N : Nat) (a : Ar) (f : Nat → Int) : Bool := (List.range a.n).all (inR a f) && (List.range (N - 2)).all fun i => decide (a.nw.sp f (i + 1) = 0)
theorem isFlB_iff {N : Nat} {a : Ar} {f : Nat → Int} : isFlB N a f = true ↔ (∀ k, k < a.n → 0 ≤ f k ∧ f k ≤ a.c k) ∧ ∀ i, i < N - 2 → a.nw.sp f (i + 1) = 0 := by
  unfold isFlB
  rw [Bool.and_eq_true, List.all_eq_true, List.all_eq_true]
  constructor
  · rintro ⟨h1, h2⟩
    exact ⟨fun k hk => bw_iff.1 (h1 k (List.mem_range.2 hk)), fun i hi => by simpa using h2 i (List.mem_range.2 hi)⟩
  · rintro ⟨h1, h2⟩
    exact ⟨fun k hk => bw_iff.2 (h1 k (List.mem_range.1 hk)), fun i hi => by simpa using h2 i (List.mem_range.1 hi)⟩
theorem isFlB_fl {N : Nat} {a : Ar} {f : Nat → Int} (hN : 2 ≤ N) : isFlB N a f = true ↔ a.nw.Fl N 0 (N - 1) f := by
  rw [isFlB_iff]
  constructor
  · rintro ⟨h1, h2⟩
    refine ⟨fun k hk => (h1 k hk).1, fun k hk => (h1 k hk).2, fun v hv h3 h4 => ?_⟩
    have := h2 (v - 1) (by omega)
    rwa [show v - 1 + 1 = v by omega] at this
  · rintro ⟨h1, h2, h3⟩
    exact ⟨fun k hk => ⟨h1 k hk, h2 k hk⟩, fun i hi => h3 (i + 1) (by omega) (by omega) (by omega)⟩
theorem isFlB_no1 {N : Nat} {a : Ar} {f : Nat → Int} {k : Nat} (hk : k < a.n) (h : inR a f k = false) : isFlB N a f = false := by
  cases hv : isFlB N a f
  · rfl
  · have := (isFlB_iff.1 hv).1 k hk
    rw [show inR a f k = true from bw_iff.2 this] at h; cases h
theorem isFlB_no2 {N : Nat} {a : Ar} {f : Nat → Int} {i : Nat} (hi : i < N - 2) (h : a.nw.sp f (i + 1) ≠ 0) : isFlB N a f = false := by
  cases hv : isFlB N a f
  · rfl
  · exact absurd ((isFlB_iff.1 hv).2 i hi) h
/-- one term of a cost -/
def tc (a : Ar) (s : Nat → Bool) (k : Nat) : Int := if s (a.f k).toNat = true ∧ s (a.t k).toNat = false then a.c k else 0
theorem ct_tc (a : Ar) (s : Nat → Bool) : a.nw.ct s = sm a.n (tc a s) := rfl
/-- is it a side? -/
def isSdB (N : Nat) (s : Nat → Bool) : Bool := s 0 && !s (N - 1)
theorem isSdB_iff {N : Nat} {s : Nat → Bool} : isSdB N s = true ↔ Nw.Sd 0 (N - 1) s := by unfold isSdB Nw.Sd; simp
/-- what Check answers -/
def chB (N : Nat) (a : Ar) (f : Nat → Int) (s : Nat → Bool) : Bool := isFlB N a f && isSdB N s && decide (a.nw.sp f 0 = a.nw.ct s)
/-- the answer of Check for a flow of n numbers and a side of m flags -/
def Chk (N : Int) (a : Ar) (n m : Nat) (f : Nat → Int) (s : Nat → Bool) (b : Bool) (er : Int) : Prop :=
  (vNet N a = false ∧ b = false ∧ er = 2) ∨ (vNet N a = true ∧ ((n ≠ a.n ∨ (m : Int) ≠ N) ∧ b = false ∧ er = 3 ∨ n = a.n ∧ (m : Int) = N ∧ b = chB m a f s ∧ er = 0))
theorem Chk.one {N : Int} {a : Ar} {n m : Nat} {f : Nat → Int} {s : Nat → Bool} {b c : Bool} {x y : Int} (h : Chk N a n m f s b x) (k : Chk N a n m f s c y) : b = c ∧ x = y := by
  rcases h with ⟨h1, h2, h3⟩ | ⟨h1, ⟨h4, h2, h3⟩ | ⟨h4, h5, h2, h3⟩⟩ <;> rcases k with ⟨k1, k2, k3⟩ | ⟨k1, ⟨k4, k2, k3⟩ | ⟨k4, k5, k2, k3⟩⟩
  · exact ⟨by rw [h2, k2], by omega⟩
  · rw [h1] at k1; cases k1
  · rw [h1] at k1; cases k1
  · rw [h1] at k1; cases k1
  · exact ⟨by rw [h2, k2], by omega⟩
  · rcases h4 with h4 | h4 <;> omega
  · rw [h1] at k1; cases k1
  · rcases k4 with k4 | k4 <;> omega
  · exact ⟨by rw [h2, k2], by omega⟩
end Go.Proofs.Ytilcbbdmenknfaa
