/- Walks: the law's net. -/
import Derived.Test.YtilcbbdmenknfaaMc
namespace Go.Proofs.Ytilcbbdmenknfaa
open Go.RowKit

/-- the cells of the first k arcs -/
def acl (a : Ar) (k : Nat) : List Value := (List.range k).flatMap fun j => [.int .i64 (a.f j), .int .i64 (a.t j), .int .i64 (a.c j)]
theorem acl_len (a : Ar) (k : Nat) : (acl a k).length = k * 3 := by
  induction k with
  | zero => rfl
  | succ k ih => unfold acl at ih ⊢; rw [List.range_succ, List.flatMap_append, List.length_append, ih]; simp; omega
theorem acl_succ (a : Ar) (k : Nat) : acl a (k + 1) = acl a k ++ [.int .i64 (a.f k), .int .i64 (a.t k), .int .i64 (a.c k)] := by unfold acl; rw [List.range_succ, List.flatMap_append]; simp
theorem acl_get (a : Ar) : ∀ {k j : Nat}, j < k → (acl a k)[j * 3]? = some (.int .i64 (a.f j)) ∧ (acl a k)[j * 3 + 1]? = some (.int .i64 (a.t j)) ∧ (acl a k)[j * 3 + 2]? = some (.int .i64 (a.c j)) := by
  intro k
  induction k with
  | zero => intro j hj; omega
  | succ k ih =>
    intro j hj
    rw [acl_succ]
    have hl := acl_len a k
    by_cases e : j = k
    · subst e
      rw [List.getElem?_append_right (by omega), List.getElem?_append_right (by omega), List.getElem?_append_right (by omega), hl]
      refine ⟨?_, ?_, ?_⟩
      · rw [show j * 3 - j * 3 = 0 by omega]; rfl
      · rw [show j * 3 + 1 - j * 3 = 1 by omega]; rfl
      · rw [show j * 3 + 2 - j * 3 = 2 by omega]; rfl
    · rw [List.getElem?_append_left (by omega), List.getElem?_append_left (by omega), List.getElem?_append_left (by omega)]
      exact ih (by omega)
theorem Al.own {W : World} {base : Nat} {v : Value} {a : Ar} (h : W.ownsRow base 65 3 v a.n (acl a a.n)) : Al W v a := by
  obtain ⟨hl, ⟨rfl, h0⟩ | ⟨g, cap, cur, rfl, hg, hh, h1, h2, h3, h4⟩⟩ := h
  · exact ⟨none, 0, by rw [h0], by omega, by omega, fun hp => by omega⟩
  · refine ⟨_, cap, rfl, h1, by simp only [maxLen] at h2; omega, fun hp => ⟨g, 0, rfl, (Array.getElem?_eq_some_iff.1 hh).1, fun j hj => ?_⟩⟩
    have key : ∀ i u, (acl a a.n)[i]? = some u → i < a.n * 3 → W.cell? ⟨g, 0 + i, none⟩ = some u := by
      intro i u hu hi
      rw [← h4, List.getElem?_take, if_pos hi] at hu
      rw [Nat.zero_add, cell_of_row W g i cur 65 (0, 0) hh]
      simpa using hu
    obtain ⟨k1, k2, k3⟩ := acl_get a hj
    exact ⟨key _ _ k1 (by omega), key _ _ k2 (by omega), key _ _ k3 (by omega)⟩
/-- the first arcs -/
def Ar.cut (a : Ar) (k : Nat) : Ar := ⟨min a.n k, a.f, a.t, a.c⟩
theorem vNet_cut (N : Int) (a : Ar) : vNet N (a.cut 162) = vNet N a := by
  by_cases h : a.n ≤ 160
  · have e : a.cut 162 = a := by unfold Ar.cut; cases a; simp at *; omega
    rw [e]
  · have h1 : vNet N a = false := by unfold vNet; rw [decide_eq_false h, Bool.and_false, Bool.false_and]
    have h2 : vNet N (a.cut 162) = false := by
      unfold vNet
      have : ¬ (a.cut 162).n ≤ 160 := by show ¬ min a.n 162 ≤ 160; omega
      rw [decide_eq_false this, Bool.and_false, Bool.false_and]
    rw [h1, h2]
theorem vNet_same {N : Int} {a : Ar} (h : vNet N a = true) : a.cut 162 = a := by
  have := (vNet_iff.1 h).2.1
  unfold Ar.cut; cases a; simp at *; omega

theorem two {w : World} {b : Nat} {t : TypeId} {x0 x1 : Value} (h : w.heap[b]? = some (.cells #[x0, x1] t (0, 0))) : w.cell? ⟨b, 0, none⟩ = some x0 ∧ w.cell? ⟨b, 1, none⟩ = some x1 ∧ (∀ o, w.frozen? ⟨b, o, none⟩ = false) ∧ b < w.heap.size :=
  ⟨cell_of_row w b 0 _ _ (0, 0) h, cell_of_row w b 1 _ _ (0, 0) h, fun o => by simp [World.frozen?, h], (Array.getElem?_eq_some_iff.1 h).1⟩
set_option maxRecDepth 100000 in
theorem info65 : (Try.prog.info? 65).map (fun i => (i.zero, i.size, i.bytes)) = some (some (.agg #[.int .i64 0, .int .i64 0, .int .i64 0]), 3, 24) := by kernel_rfl

set_option maxHeartbeats 4000000 in
set_option maxRecDepth 100000 in
theorem net_any (N : Int) (a : Ar) (AV : Value) (W : World) (hA : Al W AV a) :
    Calls Try.prog 16 #[.agg #[.int .i64 N, AV]] W fun e W' => ∃ v, e = .returned (.agg #[.int .i64 N, v]) ∧ Al W' v (a.cut 162) ∧ W'.ownsRow W.heap.size 65 3 v (min a.n 162) (acl a (min a.n 162)) ∧ Ext W W' := by
  have HA := Lib.hid hA
  obtain ⟨A, c, rfl, hac, hcm, -⟩ := hA
  obtain ⟨i0, hi, hz0, hz1, hz2⟩ := info_parts info65
  go_enter Try.func16, Try.ntmps16
  go_wp2_with fail
  go_loopw [12] (fun i wr => ∃ (k : Nat) (v : Value), i = .int .i64 k ∧ k ≤ a.n ∧ k ≤ 162 ∧ Hid (wr.heap[W.heap.size + 1]? = some (.cells #[.int .i64 0, .slice none 0 0] 30 (0, 0)) ∧ wr.heap[W.heap.size + 1 + 1]? = some (.cells #[.int .i64 N, v] 30 (0, 0)) ∧
    wr.ownsRow (W.heap.size + 1 + 1 + 1) 65 3 v k (acl a k) ∧ Ext W wr)) (fun i _ => a.n - (intOf i).toNat)
  case atStart =>
    refine ⟨0, .slice none 0 0, rfl, Nat.zero_le _, Nat.zero_le _, Lib.hid ⟨?_, ?_, World.ownsRow_nil _ _ _ _, al3 W _ _ _⟩⟩
    · have := heap_alloc_new (W.alloc (.cells #[.int .i64 N, .slice A a.n c] 24)) (.cells #[.int .i64 0, .slice none 0 0] 30)
      simp only [World.size_alloc] at this
      exact (Below.heap_alloc _ _ _ (by simp)).trans this
    · have := heap_alloc_new ((W.alloc (.cells #[.int .i64 N, .slice A a.n c] 24)).alloc (.cells #[.int .i64 0, .slice none 0 0] 30)) (.cells #[.int .i64 N, .slice none 0 0] 30)
      simp only [World.size_alloc] at this
      exact this
  case round =>
    obtain ⟨k, v, rfl, hk, hk2, hin⟩ := hrel
    have fin : k = min a.n 162 → True := fun _ => trivial
    obtain ⟨p0, p1, p2, p3⟩ := two hin.out.1
    obtain ⟨m0, m1, m2, m3⟩ := two hin.out.2.1
    have hvs : ∃ A n c, v = .slice A n c := by
      obtain ⟨-, ⟨rfl, -⟩ | ⟨g, cap, cur, rfl, -⟩⟩ := hin.out.2.2.1
      · exact ⟨_, _, _, rfl⟩
      · exact ⟨_, _, _, rfl⟩
    obtain ⟨Av, nv, cv, rfl⟩ := hvs
    clear fin
    have done : k = min a.n 162 → ∀ X Y : World, Ext wr X → Y = ((X.setCell ⟨W.heap.size + 1, 0, none⟩ (.int .i64 N)).setCell ⟨W.heap.size + 1, 1, none⟩ (.slice Av nv cv)) →
        Al Y (.slice Av nv cv) (a.cut 162) ∧ Y.ownsRow W.heap.size 65 3 (.slice Av nv cv) (min a.n 162) (acl a (min a.n 162)) ∧ Ext W Y := by
      rintro hkm X Y hX rfl
      have hex : Ext W ((X.setCell ⟨W.heap.size + 1, 0, none⟩ (.int .i64 N)).setCell ⟨W.heap.size + 1, 1, none⟩ (.slice Av nv cv)) := ((hin.out.2.2.2.trans hX).sc (by omega)).sc (by omega)
      have ho := World.ownsRow.ext hin.out.2.2.1 hX
      rw [hkm] at ho
      have ho2 : ((X.setCell ⟨W.heap.size + 1, 0, none⟩ (.int .i64 N)).setCell ⟨W.heap.size + 1, 1, none⟩ (.slice Av nv cv)).ownsRow (W.heap.size + 1 + 1 + 1) 65 3 (.slice Av nv cv) (min a.n 162) (acl a (min a.n 162)) := by
        obtain ⟨h1, h2 | ⟨g, cap, cur, e, hg, hh, rest⟩⟩ := ho
        · exact ⟨h1, .inl h2⟩
        · exact ⟨h1, .inr ⟨g, cap, cur, e, hg, (Below.heap_setCell _ ⟨W.heap.size + 1, 1, none⟩ _ g (by show g ≠ W.heap.size + 1; omega)).trans ((Below.heap_setCell _ ⟨W.heap.size + 1, 0, none⟩ _ g (by show g ≠ W.heap.size + 1; omega)).trans hh), rest⟩⟩
      refine ⟨Al.own (a := a.cut 162) ho2, ⟨ho2.1, ho2.2.imp id fun ⟨g, cap, cur, e, hg, rest⟩ => ⟨g, cap, cur, e, by omega, rest⟩⟩, hex⟩
    have HD := Lib.hid done; clear done
    by_cases hlt : k < a.n
    · obtain ⟨b, off, rfl, d1, d2, d3⟩ := HA.out.arc hin.out.2.2.2 hlt
      obtain ⟨fk, hfk⟩ : ∃ x, x = a.f k := ⟨_, rfl⟩
      obtain ⟨tk, htk⟩ : ∃ x, x = a.t k := ⟨_, rfl⟩
      obtain ⟨ck, hck⟩ : ∃ x, x = a.c k := ⟨_, rfl⟩
      rw [← hfk] at d1; rw [← htk] at d2; rw [← hck] at d3
      have HFT := Lib.hid (And.intro hfk (And.intro htk hck))
      clear hfk htk hck
      by_cases h161 : k = 162
      · have h2 : (161 : Int) < k := by omega
        clear HFT
        have hD2 := HD.out (by omega)
        have HD2 := Lib.hid hD2
        clear hD2 HD h161
        go_upto_region 8 with fail
        have hX : Ext wr (wr.alloc (.cells #[.int .i64 fk, .int .i64 tk, .int .i64 ck] 64)) := Ext.alc (Ext.refl wr) _
        generalize wr.alloc (.cells #[.int .i64 fk, .int .i64 tk, .int .i64 ck] 64) = X at *
        obtain ⟨p0, p1, p2, p3⟩ := two ((Below.block hX _ p3).trans hin.out.1)
        obtain ⟨m0, m1, m2, m3⟩ := two ((Below.block hX _ m3).trans hin.out.2.1)
        have HX := Lib.hid hX
        clear hX
        go_wp2
        refine bodyPost_ret (v := .agg #[.int .i64 N, .slice Av nv cv]) (by simp [results, Try.results16, go_sem, p0, p1]) rfl ?_
        exact ⟨_, rfl, HD2.out _ _ HX.out rfl⟩
      · have h2 : ¬ (161 : Int) < k := by omega
        have hown := World.ownsRow.ext hin.out.2.2.1 (Ext.alc (Ext.alc (Ext.refl wr) (.cells #[.int .i64 fk, .int .i64 tk, .int .i64 ck] 64)) (.cells #[.int .i64 fk, .int .i64 tk, .int .i64 ck] 65))
        clear p0 p1 p2
        go_wp2_with (at_builtin; refine wpList_append_own _ rfl _ _ 28 rfl (W.heap.size + 1 + 1 + 1) 65 i0 (.agg #[.int .i64 0, .int .i64 0, .int .i64 0]) 3 24 Try.underlying28 hi hz0 hz1 hz2 rfl (by decide) _ k _ rfl hown ⟨wr.heap.size + 1, 0, none⟩ 1 1 [.int .i64 fk, .int .i64 tk, .int .i64 ck] rfl rfl ?c1 ?c2 ?c3 ?c4 ?c5 ?_)
        case c2 => exact ⟨rfl, rfl, rfl⟩
        case c3 => unfold maxLen; omega
        case c4 => omega
        case c5 => omega
        intro v' w2 hown' hgrow hnil
        clear hnil
        have hvs : ∃ A n c, v' = .slice A n c := by
          obtain ⟨-, ⟨rfl, -⟩ | ⟨g, cap, cur, rfl, -⟩⟩ := hown'
          · exact ⟨_, _, _, rfl⟩
          · exact ⟨_, _, _, rfl⟩
        obtain ⟨Aw, nw, cw, rfl⟩ := hvs
        have hob : ∀ g, (Value.slice Av nv cv).ownBlock = some g → W.heap.size + 1 + 1 + 1 ≤ g := fun g hg => (World.ownsRow.lt hown g hg).1
        have hkeep : ∀ g, g < W.heap.size + 1 + 1 + 1 → w2.heap[g]? = wr.heap[g]? := fun g hg => (hgrow.block g (by simp; omega) (fun e => by have := hob g e.symm; omega)).trans ((Below.heap_alloc _ _ g (by simp; omega)).trans (Below.heap_alloc _ _ g (by omega)))
        have e1 := (hkeep (W.heap.size + 1) (by omega)).trans hin.out.1
        have e2 := (hkeep (W.heap.size + 1 + 1) (by omega)).trans hin.out.2.1
        obtain ⟨n0, n1, n2, n3⟩ := two e2
        have hex : Ext W w2 := ⟨hgrow.os.trans hin.out.2.2.2.os, hgrow.tape.trans hin.out.2.2.2.tape, hgrow.output.trans hin.out.2.2.2.output, by have h1 := hgrow.size; have h2 := hin.out.2.2.2.size; simp at h1; omega, fun g hg => (hkeep g (by omega)).trans (hin.out.2.2.2.block g hg)⟩
        have HN := Lib.hid (And.intro e1 (And.intro e2 (And.intro hown' hex)))
        clear e1 e2 hown' hex hgrow hkeep hob hown m0 m1 m2 d1 d2 d3
        go_wp2
        go_roundw
        case rel =>
          obtain ⟨e1, e2, ho, hex⟩ := HN.out
          refine ⟨k + 1, .slice Aw nw cw, by go_num, by omega, by omega, Lib.hid ⟨(Below.heap_setCell w2 ⟨W.heap.size + 1 + 1, 1, none⟩ _ (W.heap.size + 1) (by simp)).trans e1, ?_, ?_, hex.sc (by omega)⟩⟩
          · simp [World.setCell, Array.getElem?_modify, e2]
          · rw [acl_succ, ← HFT.out.1, ← HFT.out.2.1, ← HFT.out.2.2]
            obtain ⟨h1, h2 | ⟨g, cap, cur, e, hg, hh, rest⟩⟩ := ho
            · exact ⟨h1, .inl h2⟩
            · exact ⟨h1, .inr ⟨g, cap, cur, e, hg, (Below.heap_setCell _ ⟨W.heap.size + 1 + 1, 1, none⟩ _ g (by show g ≠ W.heap.size + 1 + 1; omega)).trans hh, rest⟩⟩
        case measure => simp [intOf]; omega
    · obtain rfl : k = a.n := by omega
      have hD2 := HD.out (by omega)
      have HD2 := Lib.hid hD2
      clear hD2 HD
      go_wp2
      refine bodyPost_ret (v := .agg #[.int .i64 N, .slice Av nv cv]) (by simp [results, Try.results16, go_sem, p0, p1]) rfl ?_
      exact ⟨_, rfl, HD2.out _ _ (Ext.refl wr) rfl⟩
end Go.Proofs.Ytilcbbdmenknfaa
