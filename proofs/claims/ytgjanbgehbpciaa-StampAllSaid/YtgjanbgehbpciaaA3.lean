/- Walks: the reference's Inverse. -/
import Derived.Test.YtgjanbgehbpciaaA2
namespace Go.Proofs.Ytgjanbgehbpciaa
open Go.RowKit

/-- the reference's After -/
theorem afterR_any (w h : Int) (a b : Mv) (W : World) (hs : okSize w h = true) (ha : has w h a = true) (hb : has w h b = true) :
    Calls Try.prog 28 #[.int .i64 w, .int .i64 h, .agg #[.int .i64 a.dx, .int .i64 a.dy, .int .i64 a.t, .bool a.f], .agg #[.int .i64 b.dx, .int .i64 b.dy, .int .i64 b.t, .bool b.f]] W fun e W' =>
      e = .returned (.agg #[.int .i64 (aft w h a b).dx, .int .i64 (aft w h a b).dy, .int .i64 (aft w h a b).t, .bool (aft w h a b).f]) ∧ Ext W W' := by
  rw [okSize_iff] at hs
  rw [has_iff] at ha hb
  obtain ⟨adx, ady, at', af⟩ := a
  obtain ⟨bdx, bdy, bt, bf⟩ := b
  simp only at ha hb ⊢
  obtain ⟨n, rfl⟩ : ∃ n : Nat, at' = n := ⟨at'.toNat, by omega⟩
  obtain ⟨k, rfl⟩ : ∃ k : Nat, bt = k := ⟨bt.toNat, by omega⟩
  have hts := tsum_in af (n : Int) (k : Int)
  have hsp := fun p => spin_comp (fa := af) (fb := bf) (ta := (n : Int)) (tb := (k : Int)) (by omega) (by omega) (by omega) (by omega) p
  simp only [Int.toNat_natCast] at hsp
  have h1 := hsp (1, 0)
  have h2 := hsp (0, 1)
  refine (afterR_c w h adx ady bdx bdy n k af bf W (by omega) (by omega) (by omega) (by omega) (by omega) (by omega) (by omega) (by omega) (by omega) (by omega) (by omega) (by omega) (by omega) (by omega)
    (tsum af n k).toNat (by omega) (af != bf) ⟨?_, ?_⟩ ⟨?_, ?_⟩).mono ?_
  · unfold la; rw [h1]
  · unfold lc; rw [h1]
  · unfold lb; rw [h2]
  · unfold ld; rw [h2]
  · rintro e W' ⟨rfl, hx⟩
    refine ⟨?_, hx⟩
    unfold aft
    simp only [Int.toNat_natCast]
    rw [Int.toNat_of_nonneg hts.1]

theorem mem_mvs {w h : Nat} {m : Mv} (hm : has w h m = true) : m ∈ mvs w h (pos w h 2 0 0 0) := by
  have hm0 := hm
  rw [has_iff] at hm
  obtain ⟨dx, dy, t, f⟩ := m
  simp only at hm
  obtain ⟨x, rfl⟩ : ∃ x : Nat, dx = x := ⟨dx.toNat, by omega⟩
  obtain ⟨y, rfl⟩ : ∃ y : Nat, dy = y := ⟨dy.toNat, by omega⟩
  obtain ⟨n, rfl⟩ : ∃ n : Nat, t = n := ⟨t.toNat, by omega⟩
  have e : dec w h (pos w h f.toNat n x y) = ⟨x, y, n, f⟩ := by
    rw [dec_pos (by cases f <;> simp) (by omega) (by omega) (by omega)]
    cases f <;> rfl
  unfold mvs
  rw [List.mem_filter, List.mem_map]
  refine ⟨⟨_, List.mem_range.2 ?_, e⟩, hm0⟩
  have h1 : f.toNat * 4 + n + 1 ≤ 8 := by cases f <;> simp <;> omega
  have h2 : (f.toNat * 4 + n) * w + x + 1 ≤ 8 * w := by
    have := Nat.mul_le_mul_right w h1
    rw [Nat.succ_mul] at this
    omega
  have h3 := Nat.mul_le_mul_right h h2
  rw [Nat.succ_mul] at h3
  unfold pos
  simp only [Nat.reduceMul, Nat.add_zero]
  omega
theorem of_mvs {w h N : Nat} {m : Mv} (hm : m ∈ mvs w h N) : has w h m = true := by
  unfold mvs at hm
  exact (List.mem_filter.1 hm).2
theorem pos2_bd {w h : Nat} (hw : w ≤ 8) (hh : h ≤ 8) : pos w h 2 0 0 0 ≤ 512 := by
  have h1 : 8 * w ≤ 8 * 8 := Nat.mul_le_mul (by omega) hw
  have h2 : 8 * w * h ≤ 64 * 8 := Nat.mul_le_mul (by omega) hh
  unfold pos
  simp only [Nat.reduceMul, Nat.add_zero]
  omega

set_option maxHeartbeats 4000000 in
set_option maxRecDepth 100000 in
theorem invR_c (w h : Nat) (m : Mv) (n : Nat) (l : List Mv) (W : World) (hs : okSize w h = true) (hm : has w h m = true) (hn : n = l.length) (hn5 : n ≤ 512)
    (hmem : inv w h m ∈ l) (hall : ∀ x ∈ l, has w h x = true) (hmv : ∀ X, Calls Try.prog 34 #[.int .i64 w, .int .i64 h] X fun e Y => ∃ v, e = .returned v ∧ Ml Y v l ∧ Ext X Y) :
    Calls Try.prog 27 #[.int .i64 w, .int .i64 h, .agg #[.int .i64 m.dx, .int .i64 m.dy, .int .i64 m.t, .bool m.f]] W fun e W' =>
      e = .returned (.agg #[.int .i64 (inv w h m).dx, .int .i64 (inv w h m).dy, .int .i64 (inv w h m).t, .bool (inv w h m).f]) ∧ Ext W W' := by
  have HMV := Lib.hid hmv; have HN := Lib.hid hn; have HS := Lib.hid hs; have HM := Lib.hid hm; have HMEM := Lib.hid hmem; have HALL := Lib.hid hall
  clear hmv hn hs hm hmem hall
  go_enter Try.func27, Try.ntmps27
  go_wp2_with fail
  have q1 : Q4 ((W.alloc (.cells #[.int .i64 m.dx, .int .i64 m.dy, .int .i64 m.t, .bool m.f] 26)).alloc (.cells #[.int .i64 0, .int .i64 0, .int .i64 0, .bool false] 26)) W.heap.size (.int .i64 m.dx) (.int .i64 m.dy) (.int .i64 m.t) (.bool m.f) := by
    refine ⟨?_, ?_, ?_, ?_⟩ <;> (rw [World.cell?_alloc_past _ _ _ (by simp), World.cell?_alloc_new]; rfl)
  have q2 : B4 ((W.alloc (.cells #[.int .i64 m.dx, .int .i64 m.dy, .int .i64 m.t, .bool m.f] 26)).alloc (.cells #[.int .i64 0, .int .i64 0, .int .i64 0, .bool false] 26)) (W.heap.size + 1) (.int .i64 0) (.int .i64 0) (.int .i64 0) (.bool false) := by
    have := heap_alloc_new (W.alloc (.cells #[.int .i64 m.dx, .int .i64 m.dy, .int .i64 m.t, .bool m.f] 26)) (.cells #[.int .i64 0, .int .i64 0, .int .i64 0, .bool false] 26)
    rw [World.size_alloc] at this
    exact ⟨26, this⟩
  have bb := al2 W (.cells #[.int .i64 m.dx, .int .i64 m.dy, .int .i64 m.t, .bool m.f] 26) (.cells #[.int .i64 0, .int .i64 0, .int .i64 0, .bool false] 26)
  have zz : ((W.alloc (.cells #[.int .i64 m.dx, .int .i64 m.dy, .int .i64 m.t, .bool m.f] 26)).alloc (.cells #[.int .i64 0, .int .i64 0, .int .i64 0, .bool false] 26)).heap.size = W.heap.size + 1 + 1 := by simp
  generalize ((W.alloc (.cells #[.int .i64 m.dx, .int .i64 m.dy, .int .i64 m.t, .bool m.f] 26)).alloc (.cells #[.int .i64 0, .int .i64 0, .int .i64 0, .bool false] 26)) = W2 at *
  have zle : W.heap.size + 1 + 1 ≤ W2.heap.size := by omega
  have BB : Hid (Ext W W2) := Lib.hid bb; have H1 := Lib.hid q1; have H2 := Lib.hid q2
  clear bb zz q1 q2
  refine (HMV.out _).mono ?_
  rintro e V ⟨v, rfl, hl, hx⟩
  obtain ⟨A, cp, rfl, hc1, hc2, hcell⟩ := hl
  have hpos : 0 < l.length := List.length_pos_of_mem HMEM.out
  obtain ⟨b, off, rfl, hb, hc⟩ := hcell hpos
  have HC := Lib.hid hc; have HX : Hid (Ext W2 V) := Lib.hid hx; clear hc hx hcell hpos
  obtain ⟨N, hN⟩ : ∃ N, N = l.length := ⟨_, rfl⟩
  rw [← hN] at hc1 ⊢
  have hN5 : N ≤ 512 := by rw [hN, ← HN.out]; exact hn5
  have HNN := Lib.hid hN; clear hN
  go_wp2_with fail
  go_loopw [13] (fun i wr => ∃ j : Nat, i = .int .i64 j ∧ j ≤ N ∧ Ext V wr ∧ ∀ i x, i < j → l[i]? = some x → x ≠ inv w h m) (fun i _ => N - (intOf i).toNat)
  case atStart => exact ⟨0, rfl, by omega, Ext.refl _, fun i x hi => by omega⟩
  case round =>
    obtain ⟨j, rfl, hj, he, hne⟩ := hrel
    have HE := Lib.hid he; have HNE := Lib.hid hne; clear he hne
    by_cases hlt : j < N
    · obtain ⟨x, hx⟩ : ∃ x, l[j]? = some x := ⟨l[j]'(by rw [← HNN.out]; exact hlt), List.getElem?_eq_getElem _⟩
      have hxh : has w h x = true := HALL.out x (List.mem_of_getElem? hx)
      obtain ⟨c0, c1, c2, c3⟩ := HC.out j x hx
      have d0 := keepAt HE.out hb c0; have d1 := keepAt HE.out hb c1; have d2 := keepAt HE.out hb c2; have d3 := keepAt HE.out hb c3
      clear c0 c1 c2 c3
      have HXX := Lib.hid hx; have HXH := Lib.hid hxh; clear hx hxh
      obtain ⟨e0, e1, e2, e3⟩ := H1.out.ext (by omega) (HX.out.trans HE.out)
      have hszw : W2.heap.size ≤ wr.heap.size := (HX.out.trans HE.out).size
      rw [← Nat.add_assoc] at d1 d2 d3
      have hszv : W.heap.size < wr.heap.size := by omega
      go_wp2_with fail
      refine (afterR_any w h x m _ HS.out HXH.out HM.out).mono ?_
      rintro e Y ⟨rfl, hx2⟩
      have e1x : Ext wr Y := nx ((Ext.refl wr).alc _) hx2
      have hq : Q4 (wr.alloc (.cells #[.int .i64 x.dx, .int .i64 x.dy, .int .i64 x.t, .bool x.f] 26)) wr.heap.size (.int .i64 x.dx) (.int .i64 x.dy) (.int .i64 x.t) (.bool x.f) := by
        refine ⟨?_, ?_, ?_, ?_⟩ <;> (rw [World.cell?_alloc_new]; rfl)
      obtain ⟨c0, c1, c2, c3⟩ := hq.ext (by simp) hx2
      have EY := Lib.hid (HE.out.trans e1x); clear e1x hx2 hq d0 d1 d2 d3 e0 e1 e2 e3
      by_cases hxi : x = inv w h m
      · have hr : aft w h x m = Mv.one := by rw [hxi]; exact inv_aft HS.out HM.out
        rw [hr]
        simp only [Mv.one]
        have hb2 := H2.out.ext (HX.out.trans EY.out)
        have f2 := hb2.free
        obtain ⟨b0, b1, b2, b3⟩ := hb2.q4
        have hszy : W2.heap.size ≤ Y.heap.size := (HX.out.trans EY.out).size
        have hne : wr.heap.size ≠ W.heap.size + 1 := by omega
        have HXI := Lib.hid hxi; clear hxi hr hb2
        go_wp2_with fail
        refine bodyPost_ret (v := .agg #[.int .i64 x.dx, .int .i64 x.dy, .int .i64 x.t, .bool x.f]) (by simp [results, Try.results27, go_sem, b0, b1, b2, b3]) rfl ⟨?_, ?_⟩
        · rw [HXI.out]
        · exact (BB.out.trans (HX.out.trans EY.out)).sc4 (by omega) _ _ _ _
      · have hr : aft w h x m ≠ Mv.one := fun h1 => hxi (inv_only HS.out HM.out HXH.out h1)
        obtain ⟨r, hrr⟩ : ∃ r, r = aft w h x m := ⟨_, rfl⟩
        rw [← hrr] at hr ⊢
        have hnx : Hid (∀ i y, i < j + 1 → l[i]? = some y → y ≠ inv w h m) := Lib.hid (fun i y hi hy => by
          rcases Nat.lt_or_ge i j with h1 | h1
          · exact HNE.out i y h1 hy
          · obtain rfl : i = j := by omega
            rw [HXX.out] at hy
            injection hy with hy
            rw [← hy]; exact hxi)
        have h4 : r.dx ≠ 0 ∨ r.dy ≠ 0 ∨ r.t ≠ 0 ∨ r.f ≠ false := by
          by_cases a1 : r.dx = 0
          · by_cases a2 : r.dy = 0
            · by_cases a3 : r.t = 0
              · by_cases a4 : r.f = false
                · exact absurd (mv_ext a1 a2 a3 a4) hr
                · exact .inr (.inr (.inr a4))
              · exact .inr (.inr (.inl a3))
            · exact .inr (.inl a2)
          · exact .inl a1
        clear hr hrr hxi c0 c1 c2 c3
        obtain ⟨rx, ry, rt, rf⟩ := r
        simp only at h4 ⊢
        rcases h4 with h4 | h4 | h4 | h4
        · go_wp2_with fail
          go_roundw
          case rel => exact ⟨j + 1, by go_num, by omega, EY.out, hnx.out⟩
          case measure => simp [intOf]; omega
        · go_wp2_with fail
          go_roundw
          case rel => exact ⟨j + 1, by go_num, by omega, EY.out, hnx.out⟩
          case measure => simp [intOf]; omega
        · go_wp2_with fail
          go_roundw
          case rel => exact ⟨j + 1, by go_num, by omega, EY.out, hnx.out⟩
          case measure => simp [intOf]; omega
        · obtain rfl : rf = true := by cases rf <;> simp_all
          clear h4
          go_wp2_with fail
          go_roundw
          case rel => exact ⟨j + 1, by go_num, by omega, EY.out, hnx.out⟩
          case measure => simp [intOf]; omega
    · exfalso
      obtain ⟨i, hi⟩ := List.getElem?_of_mem HMEM.out
      have hil : i < l.length := (List.getElem?_eq_some_iff.1 hi).1
      exact HNE.out i _ (by rw [← HNN.out] at hil; omega) hi rfl

/-- the reference's Inverse -/
theorem invR_any (w h : Nat) (m : Mv) (W : World) (hs : okSize w h = true) (hm : has w h m = true) :
    Calls Try.prog 27 #[.int .i64 w, .int .i64 h, .agg #[.int .i64 m.dx, .int .i64 m.dy, .int .i64 m.t, .bool m.f]] W fun e W' =>
      e = .returned (.agg #[.int .i64 (inv w h m).dx, .int .i64 (inv w h m).dy, .int .i64 (inv w h m).t, .bool (inv w h m).f]) ∧ Ext W W' := by
  have hs' := okSize_iff.1 hs
  have h1 := pos2_bd (w := w) (h := h) (by omega) (by omega)
  have h2 := mvs_len w h (pos w h 2 0 0 0)
  exact invR_c w h m _ (mvs w h (pos w h 2 0 0 0)) W hs hm rfl (by omega) (mem_mvs (inv_has hs hm)) (fun x hx => of_mvs hx) (fun X => movesR_any w h X (by omega) (by omega))
end Go.Proofs.Ytgjanbgehbpciaa
