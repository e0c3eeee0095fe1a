/- Walks: Grid. -/
import Derived.Test.YtijhbmdbnnmogaaM22
namespace Go.Proofs.Ytijhbmdbnnmogaa.G
open Go.RowKit

set_option maxHeartbeats 4000000 in
set_option maxRecDepth 100000 in
theorem grid_no (vw vh : Int) (W : World) (h : ¬ ((1 ≤ vw ∧ vw ≤ 5) ∧ 1 ≤ vh ∧ vh ≤ 5)) :
    Calls Try.prog 27 #[.int .i64 vw, .int .i64 vh] W fun e W' => e = .returned (.tuple #[.agg #[.slice none 0 0], .int .i64 2]) ∧ Ext W W' := by
  go_enter Try.func27, Try.ntmps27
  go_upto_region 1 with fail
  have bb := al1 W (.cells #[.slice none 0 0] 28)
  have h0 := heap_alloc_new W (.cells #[.slice none 0 0] 28)
  generalize W.alloc (.cells #[.slice none 0 0] 28) = W1 at *
  obtain ⟨q, hq⟩ : ∃ q, q = (decide (1 ≤ vw) && decide (vw ≤ 5)) := ⟨_, rfl⟩
  have HQ := Lib.hid hq
  have hfin : Ext W (W1.setCell ⟨W.heap.size, 0, none⟩ (.slice none 0 0)) := Ext.sc bb (Nat.le_refl _)
  obtain ⟨c0, f0, l0⟩ := uno h0
  have g0 : (W1.setCell ⟨W.heap.size, 0, none⟩ (.slice none 0 0)).cell? ⟨W.heap.size, 0, none⟩ = some (.slice none 0 0) := World.cell?_setCell_same _ _ _ c0
  have HF := Lib.hid hfin
  clear bb h0 hfin l0
  go_wp2_with fail
  refine (isBetween_any vw 1 5 _).mono ?_
  rintro e w2 ⟨rfl, rfl⟩
  rw [← HQ.out]
  cases q
  · have H := Lib.hid h; clear h hq
    go_wp2
    exact bodyPost_ret (v := .tuple #[.agg #[.slice none 0 0], .int .i64 2]) (by simp [results, Try.results27, go_sem, g0]) rfl ⟨rfl, HF.out⟩
  · have hw : 1 ≤ vw ∧ vw ≤ 5 := by simpa using hq.symm
    obtain ⟨r, hr⟩ : ∃ q, q = (decide (1 ≤ vh) && decide (vh ≤ 5)) := ⟨_, rfl⟩
    have hr0 : r = false := by
      cases hrr : r
      · rfl
      · rw [hrr] at hr; have : 1 ≤ vh ∧ vh ≤ 5 := by simpa using hr.symm
        exact absurd ⟨hw, this⟩ h
    rw [hr0] at hr
    have HR := Lib.hid hr; have H := Lib.hid h
    clear h hq hw hr hr0
    go_wp2_with fail
    refine (isBetween_any vh 1 5 _).mono ?_
    rintro e w2 ⟨rfl, rfl⟩
    rw [← HR.out]
    go_wp2
    exact bodyPost_ret (v := .tuple #[.agg #[.slice none 0 0], .int .i64 2]) (by simp [results, Try.results27, go_sem, g0]) rfl ⟨rfl, HF.out⟩

theorem vi_il {w : World} {base n : Nat} {v : Value} {l : List Int} (h : w.ownsRow base 3 1 v n (vi l)) (hl : l.length = n) : Il w v n (fun j => l.getD j 0) := by
  subst hl
  have e : vi l = nl l.length (fun j => l.getD j 0) := by
    refine List.ext_getElem (by simp [vi, nl]) fun j h1 h2 => ?_
    have hj : j < l.length := by simpa [vi] using h1
    simp [vi, nl, hj]
  rw [e] at h
  exact ownsRow_il h
theorem ard_mem {l : List Int} {i : Nat} (h : i < l.length) : l.getD i 0 ∈ l := by
  rw [List.getD_eq_getElem?_getD, List.getElem?_eq_getElem h]; exact List.getElem_mem h

theorem own_far {w : World} {base n size : Nat} {e : TypeId} {v : Value} {xs : List Value} (h : w.ownsRow base e size v n xs) (p : Addr) (hp : p.block < base) (u : Value) : (w.setCell p u).ownsRow base e size v n xs := by
  obtain ⟨h1, h2 | ⟨g, cap, cur, rfl, hb, hh, rest⟩⟩ := h
  · exact ⟨h1, .inl h2⟩
  · exact ⟨h1, .inr ⟨g, cap, cur, rfl, hb, (Below.heap_setCell w p u g (by omega)).trans hh, rest⟩⟩

set_option maxHeartbeats 8000000 in
set_option maxRecDepth 100000 in
theorem grid_ok (w h : Nat) (W : World) (w1 : 1 ≤ w) (w5 : w ≤ 5) (g1 : 1 ≤ h) (g5 : h ≤ 5) :
    Calls Try.prog 27 #[.int .i64 (w : Nat), .int .i64 (h : Nat)] W fun e W' => ∃ g, e = .returned (.tuple #[.agg #[.slice (some ⟨g, 0, none⟩) (ng w h) (ng w h)], .int .i64 0]) ∧ W.heap.size ≤ g ∧ BI W' g (ng w h) (gs w h (h * w)) ∧ Ext W W' := by
  obtain ⟨N, hN⟩ : ∃ N, N = ng w h := ⟨_, rfl⟩
  rw [← hN]
  have hN80 : N ≤ 80 := by rw [hN]; exact ng_le w (by omega) h (by omega)
  obtain ⟨P, hP⟩ : ∃ P : Nat, P = (w - 1) * h := ⟨_, rfl⟩
  obtain ⟨Q, hQ⟩ : ∃ Q : Nat, Q = w * (h - 1) := ⟨_, rfl⟩
  have hPQ : N = 2 * (P + Q) := by rw [hN, hP, hQ]; rfl
  have hmP : ((w : Int) - 1) * (h : Int) = (P : Int) := by rw [hP, Int.natCast_mul, Int.natCast_sub w1]; rfl
  have hmQ : (w : Int) * ((h : Int) - 1) = (Q : Int) := by rw [hQ, Int.natCast_mul, Int.natCast_sub g1]; rfl
  have hm1 : ∀ X, (Instr.makeSlice 22 (.int .i64 (2 * ((P : Int) + (Q : Int)))) (.int .i64 (2 * ((P : Int) + (Q : Int))))).run Try.prog X = .ok (.slice (some ⟨X.heap.size, 0, none⟩) N N) (X.alloc (.cells (Array.ofFn fun _ : Fin N => .int .i64 0) 3)) := fun X => by
    have e : (2 : Int) * ((P : Int) + (Q : Int)) = ((N : Nat) : Int) := by omega
    rw [e]; exact make_one 22 3 _ 8 Try.underlying22 info3 rfl (by omega) N (by omega) X
  have hP2 : P ≤ 40 ∧ Q ≤ 40 := by omega
  have HN := Lib.hid (And.intro hN hPQ)
  clear hP hQ hN hPQ
  have hb1 : (decide (1 ≤ (w : Int)) && decide ((w : Int) ≤ 5)) = true := by simp; omega
  have hb2 : (decide (1 ≤ (h : Int)) && decide ((h : Int) ≤ 5)) = true := by simp; omega
  go_enter Try.func27, Try.ntmps27
  go_upto_region 1 with fail
  have bb := al1 W (.cells #[.slice none 0 0] 28)
  have h0 := heap_alloc_new W (.cells #[.slice none 0 0] 28)
  generalize W.alloc (.cells #[.slice none 0 0] 28) = W1 at *
  have HB : Hid (Ext W W1) := Lib.hid bb
  have HH := Lib.hid h0
  clear bb
  go_wp2_with fail
  refine (isBetween_any w 1 5 _).mono ?_
  rintro e w2 ⟨rfl, rfl⟩
  rw [hb1]
  go_wp2_with fail
  refine (isBetween_any h 1 5 _).mono ?_
  rintro e w2 ⟨rfl, rfl⟩
  rw [hb2]
  clear hb1 hb2
  go_upto_region 4 with fail
  clear hmP hmQ hP2
  have O1 : Ext W1 ((W1.alloc (.cells (Array.ofFn fun _ : Fin N => Value.int .i64 0) 3)).alloc (.cells #[.slice (some ⟨W1.heap.size, 0, none⟩) N N] 28)) := al2 W1 _ _
  have y1 : BI ((W1.alloc (.cells (Array.ofFn fun _ : Fin N => Value.int .i64 0) 3)).alloc (.cells #[.slice (some ⟨W1.heap.size, 0, none⟩) N N] 28)) W1.heap.size N (fun _ => 0) := Bk.alloc (t := 3) (n := N) (f := fun _ => Value.int .i64 0) (heap_alloc_new W1 _) _
  have y2 := heap_alloc_new (W1.alloc (.cells (Array.ofFn fun _ : Fin N => Value.int .i64 0) 3)) (.cells #[.slice (some ⟨W1.heap.size, 0, none⟩) N N] 28)
  simp only [World.size_alloc] at y2
  obtain ⟨g, hg⟩ : ∃ g, g = W1.heap.size := ⟨_, rfl⟩
  have hgW : W.heap.size < g := by rw [hg]; exact (uno h0).2.2
  rw [← hg] at y1 y2 O1 ⊢
  obtain ⟨z, hz⟩ : ∃ z, z = g + 1 := ⟨_, rfl⟩
  rw [← hz] at y2 ⊢
  have hgz : g ≠ z := by omega
  generalize (W1.alloc (.cells (Array.ofFn fun _ : Fin N => Value.int .i64 0) 3)).alloc (.cells #[.slice (some ⟨g, 0, none⟩) N N] 28) = W3 at *
  have HY := Lib.hid (And.intro y1 (And.intro y2 O1))
  have HGW := Lib.hid (And.intro hg hz)
  clear y1 y2 O1 hg hz h0
  go_wp2_with fail
  go_loopw [34] (fun i wr => ∃ y : Nat, i = .int .i64 y ∧ y ≤ h ∧ Hid (BI wr g N (gs w h (y * w)) ∧ wr.heap[z]? = some (.cells #[.slice (some ⟨g, 0, none⟩) N N] 28 (0, 0)) ∧ Ext W1 wr)) (fun i _ => h - (intOf i).toNat)
  case atStart => exact ⟨0, rfl, Nat.zero_le _, Lib.hid ⟨by rw [Nat.zero_mul]; exact HY.out.1, HY.out.2.1, HY.out.2.2⟩⟩
  case round =>
    clear HY
    obtain ⟨y, rfl, hy, hin⟩ := hrel
    obtain ⟨wo, rfl⟩ : ∃ w, w = wr := ⟨_, rfl⟩
    by_cases hlt : y < h
    · have HIN := hin
      clear hin
      go_wp2_with fail
      go_loopw [38] (fun i wr => ∃ x : Nat, i = .int .i64 x ∧ x ≤ w ∧ Hid (BI wr g N (gs w h (y * w + x)) ∧ wr.heap[z]? = some (.cells #[.slice (some ⟨g, 0, none⟩) N N] 28 (0, 0)) ∧ Ext W1 wr)) (fun i _ => w - (intOf i).toNat)
      case atStart => exact ⟨0, rfl, Nat.zero_le _, Lib.hid ⟨by rw [Nat.add_zero]; exact HIN.out.1, HIN.out.2.1, HIN.out.2.2⟩⟩
      case round =>
        clear HIN
        obtain ⟨x, rfl, hx, hin⟩ := hrel
        obtain ⟨wp, rfl⟩ : ∃ w, w = wr := ⟨_, rfl⟩
        by_cases hlt2 : x < w
        · go_wp2_with fail
          refine (gridDarts_any w h x y _ (by omega) (by omega) (by omega) (by omega) (by omega) (by omega) (by omega) (by omega)).mono ?_
          rintro e w4 ⟨v, rfl, hown, hxx⟩
          have hgp : g < wp.heap.size := Bk.lt hin.out.1
          have hbi4 := hin.out.1.ext hxx
          have hz4 : w4.heap[z]? = some (.cells #[.slice (some ⟨g, 0, none⟩) N N] 28 (0, 0)) := (Below.block hxx z (Array.getElem?_eq_some_iff.1 hin.out.2.1).1).trans hin.out.2.1
          have hex4 := hin.out.2.2.trans hxx
          have hbd : ∀ i, i < (ard (w : Nat) (h : Nat) (x : Nat) (y : Nat) 4).length → ∃ d : Nat, (ard (w : Nat) (h : Nat) (x : Nat) (y : Nat) 4).getD i 0 = (d : Int) ∧ d < N := fun i hi => by
            have := ard_bd (by omega) (by omega) hlt2 hlt (ard_mem hi)
            rw [← HN.out.1] at this
            exact ⟨((ard (w : Nat) (h : Nat) (x : Nat) (y : Nat) 4).getD i 0).toNat, by omega, by omega⟩
          have hgs := gs_point (w := w) (h := h) (y := y) hlt2
          have hL4 := ard_len (w : Nat) (h : Nat) (x : Nat) (y : Nat) 4
          obtain ⟨l, hl⟩ : ∃ l, l = ard (w : Nat) (h : Nat) (x : Nat) (y : Nat) 4 := ⟨_, rfl⟩
          rw [← hl] at hown hbd hgs hL4
          obtain ⟨A, c, rfl⟩ := shape_own hown
          obtain ⟨L, hL⟩ : ∃ L, L = l.length := ⟨_, rfl⟩
          rw [← hL] at hown hbd hgs hL4 ⊢
          have H4 := Lib.hid (And.intro hbi4 (And.intro hz4 (And.intro hown hex4)))
          have HBD := Lib.hid hbd; have HGS := Lib.hid hgs; have HL := Lib.hid hL
          clear hbi4 hz4 hown hex4 hbd hgs hl hL hxx hin
          go_wp2_with fail
          go_loopw [48] (fun i wr => ∃ k : Nat, i = .int .i64 k ∧ k ≤ L ∧ Hid (BI wr g N (wrt l (gs w h (y * w + x)) k) ∧ wr.heap[z]? = some (.cells #[.slice (some ⟨g, 0, none⟩) N N] 28 (0, 0)) ∧ wr.ownsRow wp.heap.size 3 1 (.slice A L c) L (vi l) ∧ Ext W1 wr)) (fun i _ => L - (intOf i).toNat)
          case atStart => exact ⟨0, rfl, Nat.zero_le _, H4⟩
          case round =>
            clear H4
            obtain ⟨k, rfl, hk, hin⟩ := hrel
            by_cases hlt3 : k < L
            · have hIl := vi_il hin.out.2.2.1 HL.out.symm
              obtain ⟨d, hd, hdN⟩ := HBD.out k hlt3
              obtain ⟨b1, o1, rfl, -, e1⟩ := Vl.at hIl (Ext.refl _) hlt3
              dsimp only at e1
              rw [hd] at e1
              obtain ⟨r, hr⟩ : ∃ r, r = (k + 1) % L := ⟨_, rfl⟩
              have hrL : r < L := by rw [hr]; exact Nat.mod_lt _ (by omega)
              obtain ⟨b2, o2, eq2, -, e2⟩ := Vl.at hIl (Ext.refl _) hrL
              injection eq2 with eq2
              injection eq2 with eqb eqo
              subst eqb eqo
              obtain ⟨u, hu⟩ : ∃ u, u = l.getD r 0 := ⟨_, rfl⟩
              dsimp only at e2
              rw [← hu] at e2
              have hrem : ((k : Int) + 1).tmod L = r := by
                rw [Int.tmod_eq_emod_of_nonneg (by omega), hr, Int.natCast_emod, Int.natCast_add]; rfl
              have hL0 : 0 < L := by omega
              have HR := Lib.hid (And.intro hd (And.intro hr hu))
              obtain ⟨z0, z1, -⟩ := uno hin.out.2.1
              have HIL := Lib.hid hIl
              clear hd hr hu hIl
              go_upto_region 14 with fail
              have zd : wr.drew.cell? ⟨z, 0, none⟩ = some (.slice (some ⟨g, 0, none⟩) N N) := z0
              have ed : wr.drew.cell? ⟨b1, o1 + r, none⟩ = some (.int .i64 u) := e2
              have cd : wr.drew.cell? ⟨g, d, none⟩ = some (.int .i64 (wrt l (gs w h (y * w + x)) k d)) := Bk.cell hin.out.1 hdN
              have fd : wr.drew.frozen? ⟨g, d, none⟩ = false := Bk.free hin.out.1 d
              have b2' : BI (wr.drew.setCell ⟨g, d, none⟩ (.int .i64 u)) g N (up (wrt l (gs w h (y * w + x)) k) d u) := BI.set_ (Bk.drew hin.out.1) d u
              have z2' : (wr.drew.setCell ⟨g, d, none⟩ (.int .i64 u)).heap[z]? = some (.cells #[.slice (some ⟨g, 0, none⟩) N N] 28 (0, 0)) := (Below.heap_setCell wr.drew ⟨g, d, none⟩ _ z (fun e => hgz e.symm)).trans hin.out.2.1
              have o2' : (wr.drew.setCell ⟨g, d, none⟩ (.int .i64 u)).ownsRow wp.heap.size 3 1 (.slice (some ⟨b1, o1, none⟩) L c) L (vi l) := own_far (w := wr.drew) hin.out.2.2.1 ⟨g, d, none⟩ hgp _
              have x2' : Ext W1 (wr.drew.setCell ⟨g, d, none⟩ (.int .i64 u)) := (hin.out.2.2.2.drw).sc (Nat.le_of_eq HGW.out.1.symm)
              have F2 := Lib.hid (And.intro b2' (And.intro z2' (And.intro o2' x2')))
              clear b2' z2' o2' x2' z0 e1 e2
              go_region
              clear zd ed cd fd
              go_wp2
              go_roundw
              case rel =>
                refine ⟨k + 1, by go_num, by omega, Lib.hid ⟨?_, F2.out.2.1, F2.out.2.2.1, F2.out.2.2.2⟩⟩
                have e : wrt l (gs w h (y * w + x)) (k + 1) = up (wrt l (gs w h (y * w + x)) k) d u := by
                  show up _ (l.getD k 0).toNat (l.getD ((k + 1) % l.length) 0) = _
                  rw [← HL.out, HR.out.1, ← HR.out.2.1, ← HR.out.2.2]; rfl
                rw [e]; exact F2.out.1
              case measure => simp [intOf]; omega
            · obtain rfl : k = L := by omega
              have HX := hin
              clear hin
              go_wp2
              go_roundw
              case rel =>
                refine ⟨x + 1, by go_num, by omega, Lib.hid ⟨?_, HX.out.2.1, HX.out.2.2.2⟩⟩
                rw [← Nat.add_assoc, HGS.out]; exact HX.out.1
              case measure => simp [intOf]; omega
        · obtain rfl : x = w := by omega
          have HX := hin
          clear hin
          go_wp2
          go_roundw
          case rel =>
            refine ⟨y + 1, by go_num, by omega, Lib.hid ⟨?_, HX.out.2.1, HX.out.2.2⟩⟩
            rw [Nat.add_mul, Nat.one_mul]; exact HX.out.1
          case measure => simp [intOf]; omega
    · obtain rfl : y = h := by omega
      obtain ⟨z0, z1, -⟩ := uno hin.out.2.1
      obtain ⟨c0, f0, l0⟩ := uno HH.out
      have c0' := keepAt hin.out.2.2 l0 c0
      have f0' := ((bcell hin.out.2.2).2 _ 0 l0).trans (f0 0)
      have g0 : (wo.setCell ⟨W.heap.size, 0, none⟩ (.slice (some ⟨g, 0, none⟩) N N)).cell? ⟨W.heap.size, 0, none⟩ = some (.slice (some ⟨g, 0, none⟩) N N) := World.cell?_setCell_same _ _ _ c0'
      have b3 : BI (wo.setCell ⟨W.heap.size, 0, none⟩ (.slice (some ⟨g, 0, none⟩) N N)) g N (gs w y (y * w)) := Bk.far hin.out.1 (by show g ≠ W.heap.size; omega) _
      have x3 : Ext W (wo.setCell ⟨W.heap.size, 0, none⟩ (.slice (some ⟨g, 0, none⟩) N N)) := (HB.out.trans hin.out.2.2).sc (Nat.le_refl _)
      have HX := Lib.hid (And.intro b3 x3)
      clear hin b3 x3 c0 f0 l0 z1
      go_wp2
      exact bodyPost_ret (v := .tuple #[.agg #[.slice (some ⟨g, 0, none⟩) N N], .int .i64 0]) (by simp [results, Try.results27, go_sem, g0]) rfl ⟨g, rfl, by omega, HX.out.1, HX.out.2⟩
end Go.Proofs.Ytijhbmdbnnmogaa.G
