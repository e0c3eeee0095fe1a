/- Walks: slices.Clone, of. · Walks: slices.Equal of numbers. -/
import Derived.Test.YtijhbmdbnnmogaaM6
import Derived.Lib.MinMax
import Derived.Lib.SliceRun
import Derived.Test.YtijhbmdbnnmogaaM2
import Derived.RegionTactic
import Derived.ChangeAlike
namespace Go.Proofs.Ytijhbmdbnnmogaa.G
open Go.RowKit

set_option maxHeartbeats 2000000 in
set_option maxRecDepth 100000 in
theorem clone_any (n : Nat) (x : Nat → Int) (V : Value) (W : World) (hV : Il W V n x) (hn : n ≤ 1000000) :
    Calls Try.prog 31 #[V] W fun e W' => ∃ U, e = .returned U ∧ W'.ownsRow W.heap.size 3 1 U n (nl n x) ∧ Ext W W' := by
  have HV := Lib.hid hV
  obtain ⟨A, c, rfl, hc, hd, hex⟩ := hV
  obtain ⟨i0, hi, hz0, hz1, hz2⟩ := info_parts info3
  have q33 : ∀ (w : World) (a : Option Addr) (n c n' c' : Nat), (binOp .eql 22 (.slice a n c) (.slice none n' c')).run Try.prog w = .ok (.bool a.isNone) w := fun w a n c n' c' => Lib.run_eql_slice_nil w _ _ a n c n' c' Try.underlying22
  cases A with
  | none =>
    obtain rfl : n = 0 := by
      rcases Nat.eq_zero_or_pos n with h | h
      · exact h
      · obtain ⟨b, o, e, -⟩ := hex h; cases e
    clear hex
    go_enter Try.func31, Try.ntmps31
    go_wp2
    go_ret
    exact ⟨_, rfl, World.ownsRow_nil _ _ _ _, Ext.refl _⟩
  | some ad =>
    have hcell : ∀ j u, (nl n x)[j]? = some u → W.cell? (ad.add j) = some u := by
      intro j u hu
      have hj : j < n := by have := (List.getElem?_eq_some_iff.1 hu).1; rw [nl_len] at this; exact this
      obtain ⟨b, o, e, -, hcs⟩ := hex (by omega)
      cases e
      rw [nl_get x hj] at hu
      cases hu
      rw [Addr.add_lit]
      exact hcs j hj
    have HC := Lib.hid hcell
    clear hex hcell
    go_enter Try.func31, Try.ntmps31
    go_wp2_with (at_builtin; refine wpList_append_own _ rfl _ _ 22 rfl W.heap.size 3 i0 (.int .i64 0) 1 8 Try.underlying22 hi hz0 hz1 hz2 rfl (by decide) _ 0 [] rfl (World.ownsRow_lit W #[] 0 (Nat.le_refl _) (Nat.zero_le _) rfl) ad n c (nl n x) rfl ?qc1 ?qc2 ?qc3 ?qc4 ?qc5 ?qc6 ?_)
    case qc1 => rw [nl_len]; omega
    case qc2 =>
      intro j u hj
      exact Lib.cell?_alloc_some _ (HC.out j u hj)
    case qc3 => intro u hu; unfold nl at hu; obtain ⟨y, _, rfl⟩ := List.mem_map.1 hu; rfl
    case qc4 => unfold maxLen; omega
    case qc5 => omega
    case qc6 => simp
    intro v' w1 hown hgrow hnil
    clear hnil
    have hI : w1.ownsRow W.heap.size 3 1 v' n (nl n x) := by simpa using hown
    have hE : Ext W w1 := ⟨hgrow.os, hgrow.tape, hgrow.output, by have h1 := hgrow.size; simp at h1; omega, fun k hk => (hgrow.block k (by simp; omega) (fun e => by simp [Value.ownBlock] at e; omega)).trans (Below.heap_alloc _ _ k hk)⟩
    have HR := Lib.hid (And.intro hI hE)
    clear hI hE hown hgrow
    go_wp2
    go_ret
    exact ⟨v', rfl, HR.out.1, HR.out.2⟩

theorem Il.cut {W : World} {A : Option Addr} {n c k : Nat} {f : Nat → Int} (h : Il W (.slice A n c) n f) (hk : k ≤ n) : Il W (.slice A k c) k f := by
  obtain ⟨A', c', e, h1, h2, h3⟩ := h
  injection e with e1 e2 e3
  subst e1 e3
  exact ⟨A, c, rfl, Nat.le_trans hk h1, h2, fun hp => by
    obtain ⟨b, off, e, hb, hc⟩ := h3 (by omega)
    exact ⟨b, off, e, hb, fun j hj => hc j (by omega)⟩⟩
theorem ownFar {w : World} {base n size : Nat} {e : TypeId} {v : Value} {xs : List Value} (h : w.ownsRow base e size v n xs) (p : Addr) (hp : p.block < base) (u : Value) : (w.setCell p u).ownsRow base e size v n xs := by
  obtain ⟨h1, h2 | ⟨g, cap, cur, rfl, hb, hh, rest⟩⟩ := h
  · exact ⟨h1, .inl h2⟩
  · exact ⟨h1, .inr ⟨g, cap, cur, rfl, hb, (Below.heap_setCell w p u g (by omega)).trans hh, rest⟩⟩

set_option maxHeartbeats 4000000 in
set_option maxRecDepth 100000 in
/-- of: a copy of the first 82 at most -/
theorem of_any (n : Nat) (f : Nat → Int) (NV : Value) (W : World) (hN : Il W NV n f) :
    Calls Try.prog 8 #[.agg #[NV]] W fun e W' => ∃ U, e = .returned (.agg #[U]) ∧ Il W' U (min n 82) f ∧ Ext W W' := by
  obtain ⟨k, hk⟩ : ∃ k, k = min n 82 := ⟨_, rfl⟩
  have hkn : k ≤ n := by omega
  have hmin : min (n : Int) 82 = (k : Int) := by omega
  have HK := Lib.hid hk
  rw [← hk]
  clear hk
  have HN := Lib.hid hN
  obtain ⟨A, c, rfl, hac, hcm, -⟩ := hN
  go_enter Try.func8, Try.ntmps8
  go_upto_region 1 with fail
  have bb := al2 W (.cells #[.slice A n c] 24) (.cells #[.slice none 0 0] 28)
  have h0 := (Below.heap_alloc (W.alloc (.cells #[.slice A n c] 24)) (.cells #[.slice none 0 0] 28) W.heap.size (by simp)).trans (heap_alloc_new W (.cells #[.slice A n c] 24))
  have h1 := heap_alloc_new (W.alloc (.cells #[.slice A n c] 24)) (.cells #[.slice none 0 0] 28)
  simp only [World.size_alloc] at h1
  generalize (W.alloc (.cells #[.slice A n c] 24)).alloc (.cells #[.slice none 0 0] 28) = W1 at *
  obtain ⟨m0, -, mz⟩ := uno h0
  have HB : Hid (Ext W W1) := Lib.hid bb
  have H1 := Lib.hid h1
  clear bb h0 h1
  go_wp2_with fail
  refine (clone_any k f _ _ ((HN.out.ext HB.out).cut hkn) (by have := HK.out; omega)).mono ?_
  rintro e w2 ⟨U, rfl, hown, hx⟩
  have hil := ownsRow_il hown
  obtain ⟨c0, f0, l0⟩ := uno ((Below.block hx _ (uno H1.out).2.2).trans H1.out)
  have g0 : (w2.setCell ⟨W.heap.size + 1, 0, none⟩ U).cell? ⟨W.heap.size + 1, 0, none⟩ = some U := World.cell?_setCell_same _ _ _ c0
  have hx2 : Ext W (w2.setCell ⟨W.heap.size + 1, 0, none⟩ U) := (HB.out.trans hx).sc (by omega)
  have hown2 : (w2.setCell ⟨W.heap.size + 1, 0, none⟩ U).ownsRow W1.heap.size 3 1 U k (nl k f) := ownFar hown ⟨W.heap.size + 1, 0, none⟩ (uno H1.out).2.2 U
  have HF := Lib.hid (And.intro (ownsRow_il hown2) hx2)
  obtain ⟨A2, c2, rfl⟩ := shape_own hown
  clear hown hil hx hx2 hown2 m0 l0
  go_wp2
  exact bodyPost_ret (v := .agg #[.slice A2 k c2]) (by simp [results, Try.results8, go_sem, g0]) rfl ⟨_, rfl, HF.out.1, HF.out.2⟩
end Go.Proofs.Ytijhbmdbnnmogaa.G
namespace Go.Proofs.Ytijhbmdbnnmogaa.G
open Go.RowKit

set_option maxHeartbeats 4000000 in
set_option maxRecDepth 100000 in
theorem equalI_any (n : Nat) (x : Nat → Int) (U V : Value) (W : World) (hU : Il W U n x) (hV : Il W V n x) (hn : n ≤ 100000) :
    Calls Try.prog 16 #[U, V] W fun e W' => e = .returned (.bool true) ∧ Ext W W' := by
  have HU := Lib.hid hU; have HV := Lib.hid hV
  obtain ⟨A1, c1, rfl, hc1, hd1, -⟩ := hU
  obtain ⟨A2, c2, rfl, hc2, hd2, -⟩ := hV
  go_enter Try.func16, Try.ntmps16
  go_wp2_with fail
  go_loopw [13] (fun i wr => ∃ k : Nat, i = .int .i64 k ∧ k ≤ n ∧ Hid (Ext W wr)) (fun i _ => n - (intOf i).toNat)
  case atStart => exact ⟨0, rfl, Nat.zero_le _, Lib.hid (Ext.refl _)⟩
  case round =>
    obtain ⟨k, rfl, hk, hin⟩ := hrel
    by_cases hlt : k < n
    · obtain ⟨b1, o1, rfl, -, e1⟩ := Vl.at HU.out hin.out hlt
      obtain ⟨b2, o2, rfl, -, e2⟩ := Vl.at HV.out hin.out hlt
      obtain ⟨p, hp⟩ : ∃ p, p = x k := ⟨_, rfl⟩
      rw [← hp] at e1 e2
      have e1d : wr.drew.cell? ⟨b1, o1 + k, none⟩ = some (.int .i64 p) := e1
      have e2d : wr.drew.cell? ⟨b2, o2 + k, none⟩ = some (.int .i64 p) := e2
      have hpp : (p != p) = false := by simp
      clear hp e1 e2
      go_upto_region 6 with fail
      go_region
      clear e1d e2d
      go_wp2
      go_roundw
      case rel => exact ⟨k + 1, by go_num, by omega, Lib.hid (hin.out.drw)⟩
      case measure => simp [intOf]; omega
    · obtain rfl : k = n := by omega
      go_wp2
      go_ret
      exact ⟨rfl, hin.out⟩
end Go.Proofs.Ytijhbmdbnnmogaa.G
