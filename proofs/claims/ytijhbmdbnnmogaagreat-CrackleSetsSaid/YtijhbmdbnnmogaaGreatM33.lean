/- Walks: Grid. · Walks: awake: the square is counted. · Walks: slices.Equal of numbers. · Walks: the reference's Valid. · Walks: slices.Clone, of. · The law CrackleSets. -/
import Derived.Test.YtijhbmdbnnmogaaGreatM32
import Derived.Test.YtijhbmdbnnmogaaGreatM30
import Derived.Test.YtijhbmdbnnmogaaGreatM2
import Derived.RegionTactic
import Derived.ChangeAlike
import Derived.Test.YtijhbmdbnnmogaaGreatM1
import Derived.Test.YtijhbmdbnnmogaaGreatM5
import Derived.Lib.MinMax
import Derived.Lib.SliceRun
import Derived.Test.YtijhbmdbnnmogaaGreatM11
namespace Go.Proofs.YtijhbmdbnnmogaaGreat.G
open Go.RowKit

set_option maxHeartbeats 4000000 in
set_option maxRecDepth 100000 in
theorem grid_no (vw vh : Int) (W : World) (h : ¬ ((1 ≤ vw ∧ vw ≤ 5) ∧ 1 ≤ vh ∧ vh ≤ 5)) :
    Calls Tryz.prog 59 #[.int .i64 vw, .int .i64 vh] W fun e W' => e = .returned (.tuple #[.agg #[.slice none 0 0], .int .i64 2]) ∧ Ext W W' := by
  go_enter Tryz.func59, Tryz.ntmps59
  go_upto_region 1 with fail
  have bb := al1 W (.cells #[.slice none 0 0] 29)
  have h0 := heap_alloc_new W (.cells #[.slice none 0 0] 29)
  generalize W.alloc (.cells #[.slice none 0 0] 29) = W1 at *
  obtain ⟨q, hq⟩ : ∃ q, q = (decide (1 ≤ vw) && decide (vw ≤ 5)) := ⟨_, rfl⟩
  have HQ := Lib.hid hq
  have hfin : Ext W (W1.setCell ⟨W.heap.size, 0, none⟩ (.slice none 0 0)) := Ext.sc bb (Nat.le_refl _)
  obtain ⟨c0, f0, l0⟩ := uno h0
  have g0 : (W1.setCell ⟨W.heap.size, 0, none⟩ (.slice none 0 0)).cell? ⟨W.heap.size, 0, none⟩ = some (.slice none 0 0) := World.cell?_setCell_same _ _ _ c0
  have HF := Lib.hid hfin
  clear bb h0 hfin l0
  go_wp2_with fail
  refine (isBetween_any vw 1 5 _).mono ?_
  rintro e w2 ⟨rfl, rfl⟩
  rw [← HQ.out]
  cases q
  · have H := Lib.hid h; clear h hq
    go_wp2
    exact bodyPost_ret (v := .tuple #[.agg #[.slice none 0 0], .int .i64 2]) (by simp [results, Tryz.results59, go_sem, g0]) rfl ⟨rfl, HF.out⟩
  · have hw : 1 ≤ vw ∧ vw ≤ 5 := by simpa using hq.symm
    obtain ⟨r, hr⟩ : ∃ q, q = (decide (1 ≤ vh) && decide (vh ≤ 5)) := ⟨_, rfl⟩
    have hr0 : r = false := by
      cases hrr : r
      · rfl
      · rw [hrr] at hr; have : 1 ≤ vh ∧ vh ≤ 5 := by simpa using hr.symm
        exact absurd ⟨hw, this⟩ h
    rw [hr0] at hr
    have HR := Lib.hid hr; have H := Lib.hid h
    clear h hq hw hr hr0
    go_wp2_with fail
    refine (isBetween_any vh 1 5 _).mono ?_
    rintro e w2 ⟨rfl, rfl⟩
    rw [← HR.out]
    go_wp2
    exact bodyPost_ret (v := .tuple #[.agg #[.slice none 0 0], .int .i64 2]) (by simp [results, Tryz.results59, go_sem, g0]) rfl ⟨rfl, HF.out⟩

theorem vi_il {w : World} {base n : Nat} {v : Value} {l : List Int} (h : w.ownsRow base 3 1 v n (vi l)) (hl : l.length = n) : Il w v n (fun j => l.getD j 0) := by
  subst hl
  have e : vi l = nl l.length (fun j => l.getD j 0) := by
    refine List.ext_getElem (by simp [vi, nl]) fun j h1 h2 => ?_
    have hj : j < l.length := by simpa [vi] using h1
    simp [vi, nl, hj]
  rw [e] at h
  exact ownsRow_il h
theorem ard_mem {l : List Int} {i : Nat} (h : i < l.length) : l.getD i 0 ∈ l := by
  rw [List.getD_eq_getElem?_getD, List.getElem?_eq_getElem h]; exact List.getElem_mem h

theorem own_far {w : World} {base n size : Nat} {e : TypeId} {v : Value} {xs : List Value} (h : w.ownsRow base e size v n xs) (p : Addr) (hp : p.block < base) (u : Value) : (w.setCell p u).ownsRow base e size v n xs := by
  obtain ⟨h1, h2 | ⟨g, cap, cur, rfl, hb, hh, rest⟩⟩ := h
  · exact ⟨h1, .inl h2⟩
  · exact ⟨h1, .inr ⟨g, cap, cur, rfl, hb, (Below.heap_setCell w p u g (by omega)).trans hh, rest⟩⟩

set_option maxHeartbeats 8000000 in
set_option maxRecDepth 100000 in
theorem grid_ok (w h : Nat) (W : World) (w1 : 1 ≤ w) (w5 : w ≤ 5) (g1 : 1 ≤ h) (g5 : h ≤ 5) :
    Calls Tryz.prog 59 #[.int .i64 (w : Nat), .int .i64 (h : Nat)] W fun e W' => ∃ g, e = .returned (.tuple #[.agg #[.slice (some ⟨g, 0, none⟩) (ng w h) (ng w h)], .int .i64 0]) ∧ W.heap.size ≤ g ∧ BI W' g (ng w h) (gs w h (h * w)) ∧ Ext W W' := by
  obtain ⟨N, hN⟩ : ∃ N, N = ng w h := ⟨_, rfl⟩
  rw [← hN]
  have hN80 : N ≤ 80 := by rw [hN]; exact ng_le w (by omega) h (by omega)
  obtain ⟨P, hP⟩ : ∃ P : Nat, P = (w - 1) * h := ⟨_, rfl⟩
  obtain ⟨Q, hQ⟩ : ∃ Q : Nat, Q = w * (h - 1) := ⟨_, rfl⟩
  have hPQ : N = 2 * (P + Q) := by rw [hN, hP, hQ]; rfl
  have hmP : ((w : Int) - 1) * (h : Int) = (P : Int) := by rw [hP, Int.natCast_mul, Int.natCast_sub w1]; rfl
  have hmQ : (w : Int) * ((h : Int) - 1) = (Q : Int) := by rw [hQ, Int.natCast_mul, Int.natCast_sub g1]; rfl
  have hm1 : ∀ X, (Instr.makeSlice 22 (.int .i64 (2 * ((P : Int) + (Q : Int)))) (.int .i64 (2 * ((P : Int) + (Q : Int))))).run Tryz.prog X = .ok (.slice (some ⟨X.heap.size, 0, none⟩) N N) (X.alloc (.cells (Array.ofFn fun _ : Fin N => .int .i64 0) 3)) := fun X => by
    have e : (2 : Int) * ((P : Int) + (Q : Int)) = ((N : Nat) : Int) := by omega
    rw [e]; exact make_one 22 3 _ 8 Tryz.underlying22 info3 rfl (by omega) N (by omega) X
  have hP2 : P ≤ 40 ∧ Q ≤ 40 := by omega
  have HN := Lib.hid (And.intro hN hPQ)
  clear hP hQ hN hPQ
  have hb1 : (decide (1 ≤ (w : Int)) && decide ((w : Int) ≤ 5)) = true := by simp; omega
  have hb2 : (decide (1 ≤ (h : Int)) && decide ((h : Int) ≤ 5)) = true := by simp; omega
  go_enter Tryz.func59, Tryz.ntmps59
  go_upto_region 1 with fail
  have bb := al1 W (.cells #[.slice none 0 0] 29)
  have h0 := heap_alloc_new W (.cells #[.slice none 0 0] 29)
  generalize W.alloc (.cells #[.slice none 0 0] 29) = W1 at *
  have HB : Hid (Ext W W1) := Lib.hid bb
  have HH := Lib.hid h0
  clear bb
  go_wp2_with fail
  refine (isBetween_any w 1 5 _).mono ?_
  rintro e w2 ⟨rfl, rfl⟩
  rw [hb1]
  go_wp2_with fail
  refine (isBetween_any h 1 5 _).mono ?_
  rintro e w2 ⟨rfl, rfl⟩
  rw [hb2]
  clear hb1 hb2
  go_upto_region 4 with fail
  clear hmP hmQ hP2
  have O1 : Ext W1 ((W1.alloc (.cells (Array.ofFn fun _ : Fin N => Value.int .i64 0) 3)).alloc (.cells #[.slice (some ⟨W1.heap.size, 0, none⟩) N N] 29)) := al2 W1 _ _
  have y1 : BI ((W1.alloc (.cells (Array.ofFn fun _ : Fin N => Value.int .i64 0) 3)).alloc (.cells #[.slice (some ⟨W1.heap.size, 0, none⟩) N N] 29)) W1.heap.size N (fun _ => 0) := Bk.alloc (t := 3) (n := N) (f := fun _ => Value.int .i64 0) (heap_alloc_new W1 _) _
  have y2 := heap_alloc_new (W1.alloc (.cells (Array.ofFn fun _ : Fin N => Value.int .i64 0) 3)) (.cells #[.slice (some ⟨W1.heap.size, 0, none⟩) N N] 29)
  simp only [World.size_alloc] at y2
  obtain ⟨g, hg⟩ : ∃ g, g = W1.heap.size := ⟨_, rfl⟩
  have hgW : W.heap.size < g := by rw [hg]; exact (uno h0).2.2
  rw [← hg] at y1 y2 O1 ⊢
  obtain ⟨z, hz⟩ : ∃ z, z = g + 1 := ⟨_, rfl⟩
  rw [← hz] at y2 ⊢
  have hgz : g ≠ z := by omega
  generalize (W1.alloc (.cells (Array.ofFn fun _ : Fin N => Value.int .i64 0) 3)).alloc (.cells #[.slice (some ⟨g, 0, none⟩) N N] 29) = W3 at *
  have HY := Lib.hid (And.intro y1 (And.intro y2 O1))
  have HGW := Lib.hid (And.intro hg hz)
  clear y1 y2 O1 hg hz h0
  go_wp2_with fail
  go_loopw [34] (fun i wr => ∃ y : Nat, i = .int .i64 y ∧ y ≤ h ∧ Hid (BI wr g N (gs w h (y * w)) ∧ wr.heap[z]? = some (.cells #[.slice (some ⟨g, 0, none⟩) N N] 29 (0, 0)) ∧ Ext W1 wr)) (fun i _ => h - (intOf i).toNat)
  case atStart => exact ⟨0, rfl, Nat.zero_le _, Lib.hid ⟨by rw [Nat.zero_mul]; exact HY.out.1, HY.out.2.1, HY.out.2.2⟩⟩
  case round =>
    clear HY
    obtain ⟨y, rfl, hy, hin⟩ := hrel
    obtain ⟨wo, rfl⟩ : ∃ w, w = wr := ⟨_, rfl⟩
    by_cases hlt : y < h
    · have HIN := hin
      clear hin
      go_wp2_with fail
      go_loopw [38] (fun i wr => ∃ x : Nat, i = .int .i64 x ∧ x ≤ w ∧ Hid (BI wr g N (gs w h (y * w + x)) ∧ wr.heap[z]? = some (.cells #[.slice (some ⟨g, 0, none⟩) N N] 29 (0, 0)) ∧ Ext W1 wr)) (fun i _ => w - (intOf i).toNat)
      case atStart => exact ⟨0, rfl, Nat.zero_le _, Lib.hid ⟨by rw [Nat.add_zero]; exact HIN.out.1, HIN.out.2.1, HIN.out.2.2⟩⟩
      case round =>
        clear HIN
        obtain ⟨x, rfl, hx, hin⟩ := hrel
        obtain ⟨wp, rfl⟩ : ∃ w, w = wr := ⟨_, rfl⟩
        by_cases hlt2 : x < w
        · go_wp2_with fail
          refine (gridDarts_any w h x y _ (by omega) (by omega) (by omega) (by omega) (by omega) (by omega) (by omega) (by omega)).mono ?_
          rintro e w4 ⟨v, rfl, hown, hxx⟩
          have hgp : g < wp.heap.size := Bk.lt hin.out.1
          have hbi4 := hin.out.1.ext hxx
          have hz4 : w4.heap[z]? = some (.cells #[.slice (some ⟨g, 0, none⟩) N N] 29 (0, 0)) := (Below.block hxx z (Array.getElem?_eq_some_iff.1 hin.out.2.1).1).trans hin.out.2.1
          have hex4 := hin.out.2.2.trans hxx
          have hbd : ∀ i, i < (ard (w : Nat) (h : Nat) (x : Nat) (y : Nat) 4).length → ∃ d : Nat, (ard (w : Nat) (h : Nat) (x : Nat) (y : Nat) 4).getD i 0 = (d : Int) ∧ d < N := fun i hi => by
            have := ard_bd (by omega) (by omega) hlt2 hlt (ard_mem hi)
            rw [← HN.out.1] at this
            exact ⟨((ard (w : Nat) (h : Nat) (x : Nat) (y : Nat) 4).getD i 0).toNat, by omega, by omega⟩
          have hgs := gs_point (w := w) (h := h) (y := y) hlt2
          have hL4 := ard_len (w : Nat) (h : Nat) (x : Nat) (y : Nat) 4
          obtain ⟨l, hl⟩ : ∃ l, l = ard (w : Nat) (h : Nat) (x : Nat) (y : Nat) 4 := ⟨_, rfl⟩
          rw [← hl] at hown hbd hgs hL4
          obtain ⟨A, c, rfl⟩ := shape_own hown
          obtain ⟨L, hL⟩ : ∃ L, L = l.length := ⟨_, rfl⟩
          rw [← hL] at hown hbd hgs hL4 ⊢
          have H4 := Lib.hid (And.intro hbi4 (And.intro hz4 (And.intro hown hex4)))
          have HBD := Lib.hid hbd; have HGS := Lib.hid hgs; have HL := Lib.hid hL
          clear hbi4 hz4 hown hex4 hbd hgs hl hL hxx hin
          go_wp2_with fail
          go_loopw [48] (fun i wr => ∃ k : Nat, i = .int .i64 k ∧ k ≤ L ∧ Hid (BI wr g N (wrt l (gs w h (y * w + x)) k) ∧ wr.heap[z]? = some (.cells #[.slice (some ⟨g, 0, none⟩) N N] 29 (0, 0)) ∧ wr.ownsRow wp.heap.size 3 1 (.slice A L c) L (vi l) ∧ Ext W1 wr)) (fun i _ => L - (intOf i).toNat)
          case atStart => exact ⟨0, rfl, Nat.zero_le _, H4⟩
          case round =>
            clear H4
            obtain ⟨k, rfl, hk, hin⟩ := hrel
            by_cases hlt3 : k < L
            · have hIl := vi_il hin.out.2.2.1 HL.out.symm
              obtain ⟨d, hd, hdN⟩ := HBD.out k hlt3
              obtain ⟨b1, o1, rfl, -, e1⟩ := Vl.at hIl (Ext.refl _) hlt3
              dsimp only at e1
              rw [hd] at e1
              obtain ⟨r, hr⟩ : ∃ r, r = (k + 1) % L := ⟨_, rfl⟩
              have hrL : r < L := by rw [hr]; exact Nat.mod_lt _ (by omega)
              obtain ⟨b2, o2, eq2, -, e2⟩ := Vl.at hIl (Ext.refl _) hrL
              injection eq2 with eq2
              injection eq2 with eqb eqo
              subst eqb eqo
              obtain ⟨u, hu⟩ : ∃ u, u = l.getD r 0 := ⟨_, rfl⟩
              dsimp only at e2
              rw [← hu] at e2
              have hrem : ((k : Int) + 1).tmod L = r := by
                rw [Int.tmod_eq_emod_of_nonneg (by omega), hr, Int.natCast_emod, Int.natCast_add]; rfl
              have hL0 : 0 < L := by omega
              have HR := Lib.hid (And.intro hd (And.intro hr hu))
              obtain ⟨z0, z1, -⟩ := uno hin.out.2.1
              have HIL := Lib.hid hIl
              clear hd hr hu hIl
              go_upto_region 14 with fail
              have zd : wr.drew.cell? ⟨z, 0, none⟩ = some (.slice (some ⟨g, 0, none⟩) N N) := z0
              have ed : wr.drew.cell? ⟨b1, o1 + r, none⟩ = some (.int .i64 u) := e2
              have cd : wr.drew.cell? ⟨g, d, none⟩ = some (.int .i64 (wrt l (gs w h (y * w + x)) k d)) := Bk.cell hin.out.1 hdN
              have fd : wr.drew.frozen? ⟨g, d, none⟩ = false := Bk.free hin.out.1 d
              have b2' : BI (wr.drew.setCell ⟨g, d, none⟩ (.int .i64 u)) g N (up (wrt l (gs w h (y * w + x)) k) d u) := BI.set_ (Bk.drew hin.out.1) d u
              have z2' : (wr.drew.setCell ⟨g, d, none⟩ (.int .i64 u)).heap[z]? = some (.cells #[.slice (some ⟨g, 0, none⟩) N N] 29 (0, 0)) := (Below.heap_setCell wr.drew ⟨g, d, none⟩ _ z (fun e => hgz e.symm)).trans hin.out.2.1
              have o2' : (wr.drew.setCell ⟨g, d, none⟩ (.int .i64 u)).ownsRow wp.heap.size 3 1 (.slice (some ⟨b1, o1, none⟩) L c) L (vi l) := own_far (w := wr.drew) hin.out.2.2.1 ⟨g, d, none⟩ hgp _
              have x2' : Ext W1 (wr.drew.setCell ⟨g, d, none⟩ (.int .i64 u)) := (hin.out.2.2.2.drw).sc (Nat.le_of_eq HGW.out.1.symm)
              have F2 := Lib.hid (And.intro b2' (And.intro z2' (And.intro o2' x2')))
              clear b2' z2' o2' x2' z0 e1 e2
              go_region
              clear zd ed cd fd
              go_wp2
              go_roundw
              case rel =>
                refine ⟨k + 1, by go_num, by omega, Lib.hid ⟨?_, F2.out.2.1, F2.out.2.2.1, F2.out.2.2.2⟩⟩
                have e : wrt l (gs w h (y * w + x)) (k + 1) = up (wrt l (gs w h (y * w + x)) k) d u := by
                  show up _ (l.getD k 0).toNat (l.getD ((k + 1) % l.length) 0) = _
                  rw [← HL.out, HR.out.1, ← HR.out.2.1, ← HR.out.2.2]; rfl
                rw [e]; exact F2.out.1
              case measure => simp [intOf]; omega
            · obtain rfl : k = L := by omega
              have HX := hin
              clear hin
              go_wp2
              go_roundw
              case rel =>
                refine ⟨x + 1, by go_num, by omega, Lib.hid ⟨?_, HX.out.2.1, HX.out.2.2.2⟩⟩
                rw [← Nat.add_assoc, HGS.out]; exact HX.out.1
              case measure => simp [intOf]; omega
        · obtain rfl : x = w := by omega
          have HX := hin
          clear hin
          go_wp2
          go_roundw
          case rel =>
            refine ⟨y + 1, by go_num, by omega, Lib.hid ⟨?_, HX.out.2.1, HX.out.2.2⟩⟩
            rw [Nat.add_mul, Nat.one_mul]; exact HX.out.1
          case measure => simp [intOf]; omega
    · obtain rfl : y = h := by omega
      obtain ⟨z0, z1, -⟩ := uno hin.out.2.1
      obtain ⟨c0, f0, l0⟩ := uno HH.out
      have c0' := keepAt hin.out.2.2 l0 c0
      have f0' := ((bcell hin.out.2.2).2 _ 0 l0).trans (f0 0)
      have g0 : (wo.setCell ⟨W.heap.size, 0, none⟩ (.slice (some ⟨g, 0, none⟩) N N)).cell? ⟨W.heap.size, 0, none⟩ = some (.slice (some ⟨g, 0, none⟩) N N) := World.cell?_setCell_same _ _ _ c0'
      have b3 : BI (wo.setCell ⟨W.heap.size, 0, none⟩ (.slice (some ⟨g, 0, none⟩) N N)) g N (gs w y (y * w)) := Bk.far hin.out.1 (by show g ≠ W.heap.size; omega) _
      have x3 : Ext W (wo.setCell ⟨W.heap.size, 0, none⟩ (.slice (some ⟨g, 0, none⟩) N N)) := (HB.out.trans hin.out.2.2).sc (Nat.le_refl _)
      have HX := Lib.hid (And.intro b3 x3)
      clear hin b3 x3 c0 f0 l0 z1
      go_wp2
      exact bodyPost_ret (v := .tuple #[.agg #[.slice (some ⟨g, 0, none⟩) N N], .int .i64 0]) (by simp [results, Tryz.results59, go_sem, g0]) rfl ⟨g, rfl, by omega, HX.out.1, HX.out.2⟩
end Go.Proofs.YtijhbmdbnnmogaaGreat.G
namespace Go.Proofs.YtijhbmdbnnmogaaGreat.G
open Go.RowKit

theorem sq_trees (g : Nat) (W : World) (h : BI W g 8 sqf) : Calls Tryz.prog 13 #[.agg #[.slice (some ⟨g, 0, none⟩) 8 8]] W fun e W' => e = .returned (.tuple #[.int .i64 4, .int .i64 0]) ∧ Ext W W' :=
  trees_one 4 sqf _ W (h.il (by omega)) sq_map (fun _ => 0) sqm sq_pt (sq_parts sq_pt) sq_nm 3 (sq_rank sq_nm) (by omega) sq_fit 4 sq_det (Fz.small (by omega)) (by omega)

set_option maxHeartbeats 4000000 in
set_option maxRecDepth 100000 in
theorem awake_any (W : World) : Calls Tryz.prog 15 #[] W fun e W' => e = .returned (.bool true) ∧ Ext W W' := by
  have hg : ∀ W, Calls Tryz.prog 59 #[.int .i64 2, .int .i64 2] W fun e W' => ∃ g, e = .returned (.tuple #[.agg #[.slice (some ⟨g, 0, none⟩) 8 8], .int .i64 0]) ∧ BI W' g 8 sqf ∧ Ext W W' := fun W => by
    refine (grid_ok 2 2 W (by omega) (by omega) (by omega) (by omega)).mono ?_
    rintro e W' ⟨g, rfl, -, hb, hx⟩
    exact ⟨g, rfl, Bk.congr hb (fun d hd => by rw [gs_sq d hd]), hx⟩
  have HG := Lib.hid hg
  clear hg
  go_enter Tryz.func15, Tryz.ntmps15
  go_wp2_with fail
  refine (HG.out W).mono ?_
  rintro e w1 ⟨g, rfl, hb, hx⟩
  have HB := Lib.hid (And.intro hb hx)
  clear hb hx
  go_upto_region 2 with fail
  have b2 := al1 w1 (.cells #[.slice (some ⟨g, 0, none⟩) 8 8] 29)
  obtain ⟨m0, -, mz⟩ := uno (heap_alloc_new w1 (.cells #[.slice (some ⟨g, 0, none⟩) 8 8] 29))
  generalize w1.alloc (.cells #[.slice (some ⟨g, 0, none⟩) 8 8] 29) = w2 at *
  have HX : Hid (Ext W w2) := Lib.hid (HB.out.2.trans b2)
  have HI := Lib.hid (HB.out.1.ext b2)
  clear b2
  go_wp2_with fail
  refine (sq_trees g _ HI.out).mono ?_
  rintro e w3 ⟨rfl, hx⟩
  have HX3 := Lib.hid (HX.out.trans hx)
  clear hx m0
  go_wp2
  go_ret
  exact ⟨rfl, HX3.out⟩
end Go.Proofs.YtijhbmdbnnmogaaGreat.G
namespace Go.Proofs.YtijhbmdbnnmogaaGreat.G
open Go.RowKit

set_option maxHeartbeats 4000000 in
set_option maxRecDepth 100000 in
theorem equalI_any (n : Nat) (x : Nat → Int) (U V : Value) (W : World) (hU : Il W U n x) (hV : Il W V n x) (hn : n ≤ 100000) :
    Calls Tryz.prog 23 #[U, V] W fun e W' => e = .returned (.bool true) ∧ Ext W W' := by
  have HU := Lib.hid hU; have HV := Lib.hid hV
  obtain ⟨A1, c1, rfl, hc1, hd1, -⟩ := hU
  obtain ⟨A2, c2, rfl, hc2, hd2, -⟩ := hV
  go_enter Tryz.func23, Tryz.ntmps23
  go_wp2_with fail
  go_loopw [13] (fun i wr => ∃ k : Nat, i = .int .i64 k ∧ k ≤ n ∧ Hid (Ext W wr)) (fun i _ => n - (intOf i).toNat)
  case atStart => exact ⟨0, rfl, Nat.zero_le _, Lib.hid (Ext.refl _)⟩
  case round =>
    obtain ⟨k, rfl, hk, hin⟩ := hrel
    by_cases hlt : k < n
    · obtain ⟨b1, o1, rfl, -, e1⟩ := Vl.at HU.out hin.out hlt
      obtain ⟨b2, o2, rfl, -, e2⟩ := Vl.at HV.out hin.out hlt
      obtain ⟨p, hp⟩ : ∃ p, p = x k := ⟨_, rfl⟩
      rw [← hp] at e1 e2
      have e1d : wr.drew.cell? ⟨b1, o1 + k, none⟩ = some (.int .i64 p) := e1
      have e2d : wr.drew.cell? ⟨b2, o2 + k, none⟩ = some (.int .i64 p) := e2
      have hpp : (p != p) = false := by simp
      clear hp e1 e2
      go_upto_region 6 with fail
      go_region
      clear e1d e2d
      go_wp2
      go_roundw
      case rel => exact ⟨k + 1, by go_num, by omega, Lib.hid (hin.out.drw)⟩
      case measure => simp [intOf]; omega
    · obtain rfl : k = n := by omega
      go_wp2
      go_ret
      exact ⟨rfl, hin.out⟩
end Go.Proofs.YtijhbmdbnnmogaaGreat.G
namespace Go.Proofs.YtijhbmdbnnmogaaGreat.G
open Go.RowKit

set_option maxHeartbeats 4000000 in
set_option maxRecDepth 100000 in
theorem validR_any (n : Nat) (f : Nat → Int) (NV : Value) (W : World) (hN : Il W NV n f) :
    Calls Tryz.prog 14 #[.agg #[NV]] W fun e W' => e = .returned (.bool (vMap n f)) ∧ Ext W W' := by
  obtain ⟨r, hr⟩ : ∃ r, r = vMap n f := ⟨_, rfl⟩
  rw [← hr]
  have HR := Lib.hid hr; clear hr
  have HN := Lib.hid hN
  obtain ⟨A, c, rfl, hac, hcm, -⟩ := hN
  go_enter Tryz.func14, Tryz.ntmps14
  go_upto_region 1 with fail
  have bb := al1 W (.cells #[.slice A n c] 24)
  obtain ⟨m0, -, mz⟩ := uno (heap_alloc_new W (.cells #[.slice A n c] 24))
  generalize W.alloc (.cells #[.slice A n c] 24) = W1 at *
  have HB : Hid (Ext W W1) := Lib.hid bb
  have HM := Lib.hid m0
  clear bb
  obtain ⟨q, hq⟩ : ∃ q, q = n % 2 := ⟨_, rfl⟩
  have hd : ((n : Int)).tmod 2 = (q : Int) := by rw [hq]; exact (Int.ofNat_tmod n 2).symm
  have hq2 : q ≤ 1 := by omega
  have HQ := Lib.hid hq; clear hq
  have hno : ¬ (n % 2 = 0 ∧ n ≤ 80) → r = false := fun h => by rw [HR.out]; unfold vMap; rw [decide_eq_false h, Bool.false_and]
  have HNO := Lib.hid hno; clear hno
  by_cases hq0 : q = 0
  · by_cases hn80 : n ≤ 80
    · have hm1 : ∀ w, (Instr.makeSlice 25 (.int .i64 (n : Int)) (.int .i64 (n : Int))).run Tryz.prog w = .ok (.slice (some ⟨w.heap.size, 0, none⟩) n n) (w.alloc (.cells (Array.ofFn fun _ : Fin n => .bool false) 4)) := fun w => make_one 25 4 _ 1 Tryz.underlying25 info4 rfl (by omega) n (by omega) w
      have hq0' : (q : Int) = 0 := by omega
      rw [hq0'] at hd
      go_upto_region 5 with fail
      have HZ : Hid (n % 2 = 0) := Lib.hid (by rw [← HQ.out]; exact hq0)
      have y1 : BB (W1.alloc (.cells (Array.ofFn fun _ : Fin n => Value.bool false) 4)) W1.heap.size n (fun _ => false) := heap_alloc_new W1 _
      have e1 : Ext W1 (W1.alloc (.cells (Array.ofFn fun _ : Fin n => Value.bool false) 4)) := Ext.alc (Ext.refl _) _
      obtain ⟨g, hg⟩ : ∃ g, g = W1.heap.size := ⟨_, rfl⟩
      rw [← hg] at y1
      rw [← hg]
      have hgW : W1.heap.size ≤ g := by omega
      have Y1 := Lib.hid (And.intro y1 e1)
      have m1 := keepAt e1 mz m0
      clear y1 e1 hg m0 hd hq2 hq0 hq0'
      generalize W1.alloc (.cells (Array.ofFn fun _ : Fin n => Value.bool false) 4) = W2 at *
      go_wp2_with fail
      clear m1
      go_loopw [22] (fun i wr => ∃ k : Nat, i = .int .i64 k ∧ k ≤ n ∧ Hid ((∀ j, j < k → okD n f j = true) ∧ BB wr g n (sn f k) ∧ Ext W1 wr)) (fun i _ => n - (intOf i).toNat)
      case atStart => exact ⟨0, rfl, Nat.zero_le _, Lib.hid ⟨fun j hj => by omega, Bk.congr Y1.out.1 (fun j _ => by simp [sn]), Y1.out.2⟩⟩
      case round =>
        clear Y1
        obtain ⟨k, rfl, hk, hin⟩ := hrel
        by_cases hlt : k < n
        · obtain ⟨b1, o1, rfl, -, e1⟩ := Vl.at HN.out (HB.out.trans hin.out.2.2) hlt
          have hbad : okD n f k = false → r = false := fun h => by
            rw [HR.out]
            cases hc : vMap n f
            · rfl
            · rw [(vMap_iff.1 hc).2 k hlt] at h; cases h
          have HBAD := Lib.hid hbad; clear hbad
          obtain ⟨x, hx⟩ : ∃ x, x = f k := ⟨_, rfl⟩
          rw [← hx] at e1
          have HX := Lib.hid hx; clear hx
          by_cases h1 : 0 ≤ x ∧ x ≤ (n : Int) - 1
          · obtain ⟨h2, h3⟩ := h1
            obtain ⟨v, rfl⟩ : ∃ v : Nat, x = v := ⟨x.toNat, by omega⟩
            have hvn : v < n := by omega
            have c4 := Bk.cell hin.out.2.1 hvn
            have f4 := Bk.free hin.out.2.1 v
            have hb1 : (decide ((0 : Int) ≤ (v : Int)) && decide ((v : Int) ≤ (n : Int) - 1)) = true := by rw [decide_eq_true h2, decide_eq_true h3]; rfl
            cases hs : sn f k v
            · have hok : okD n f k = true := okD_iff.2 ⟨by rw [← HX.out]; exact ⟨h2, h3⟩, by rw [← HX.out, Int.toNat_natCast]; exact hs⟩
              rw [hs] at c4
              have HOK := Lib.hid hok
              clear hok hs
              clear hb1
              have hlt0 : ¬ ((v : Int) < 0) := by omega
              have hge0 : ¬ ((n : Int) ≤ (v : Int)) := by omega
              go_wp2
              go_roundw
              case rel =>
                refine ⟨k + 1, by go_num, by omega, Lib.hid ⟨fun j hj => ?_, Bk.congr (BB.set_ hin.out.2.1 v true) (fun j _ => ?_), hin.out.2.2.sc hgW⟩⟩
                · by_cases e : j = k
                  · subst e; exact HOK.out
                  · exact hin.out.1 j (by omega)
                · congr 1
                  rw [sn_succ, ← HX.out]
                  by_cases e : j = v
                  · subst e; rw [up_self]; simp
                  · rw [up_ne _ _ e, decide_eq_false (fun c => e (by omega)), Bool.or_false]
              case measure => simp [intOf]; omega
            · have hok : r = false := HBAD.out (by
                cases hc : okD n f k
                · rfl
                · have := (okD_iff.1 hc).2; rw [← HX.out, Int.toNat_natCast, hs] at this; cases this)
              rw [hs] at c4
              have HOK := Lib.hid hok
              clear hok hs
              clear hb1
              have hlt0 : ¬ ((v : Int) < 0) := by omega
              have hge0 : ¬ ((n : Int) ≤ (v : Int)) := by omega
              go_wp2
              go_ret
              exact ⟨by rw [HOK.out]; rfl, HB.out.trans hin.out.2.2⟩
          · have hok : r = false := HBAD.out (by
              cases hc : okD n f k
              · rfl
              · exact absurd (by rw [HX.out]; exact (okD_iff.1 hc).1) h1)
            have HOK := Lib.hid hok
            have hcase : x < 0 ∨ (¬ x < 0 ∧ (n : Int) ≤ x) := by omega
            clear hok h1
            rcases hcase with hc | ⟨hc1, hc⟩
            all_goals
              go_wp2
              go_ret
              exact ⟨by rw [HOK.out]; rfl, HB.out.trans hin.out.2.2⟩
        · obtain rfl : k = n := by omega
          have hok : r = true := by rw [HR.out]; exact vMap_iff.2 ⟨⟨HZ.out, hn80⟩, hin.out.1⟩
          have HOK := Lib.hid hok
          clear hok
          go_wp2
          go_ret
          exact ⟨by rw [HOK.out]; rfl, HB.out.trans hin.out.2.2⟩
    · have hq0' : (q : Int) = 0 := by omega
      rw [hq0'] at hd
      have hok : r = false := HNO.out (fun h => hn80 h.2)
      have HOK := Lib.hid hok
      clear hok
      go_wp2
      go_ret
      exact ⟨by rw [HOK.out]; rfl, HB.out⟩
  · have hok : r = false := HNO.out (fun h => hq0 (by rw [HQ.out]; exact h.1))
    have HOK := Lib.hid hok
    obtain rfl : q = 1 := by omega
    clear hok
    go_wp2
    go_ret
    exact ⟨by rw [HOK.out]; rfl, HB.out⟩
end Go.Proofs.YtijhbmdbnnmogaaGreat.G
namespace Go.Proofs.YtijhbmdbnnmogaaGreat.G
open Go.RowKit

set_option maxHeartbeats 2000000 in
set_option maxRecDepth 100000 in
theorem clone_any (n : Nat) (x : Nat → Int) (V : Value) (W : World) (hV : Il W V n x) (hn : n ≤ 1000000) :
    Calls Tryz.prog 52 #[V] W fun e W' => ∃ U, e = .returned U ∧ W'.ownsRow W.heap.size 3 1 U n (nl n x) ∧ Ext W W' := by
  have HV := Lib.hid hV
  obtain ⟨A, c, rfl, hc, hd, hex⟩ := hV
  obtain ⟨i0, hi, hz0, hz1, hz2⟩ := info_parts info3
  have q33 : ∀ (w : World) (a : Option Addr) (n c n' c' : Nat), (binOp .eql 22 (.slice a n c) (.slice none n' c')).run Tryz.prog w = .ok (.bool a.isNone) w := fun w a n c n' c' => Lib.run_eql_slice_nil w _ _ a n c n' c' Tryz.underlying22
  cases A with
  | none =>
    obtain rfl : n = 0 := by
      rcases Nat.eq_zero_or_pos n with h | h
      · exact h
      · obtain ⟨b, o, e, -⟩ := hex h; cases e
    clear hex
    go_enter Tryz.func52, Tryz.ntmps52
    go_wp2
    go_ret
    exact ⟨_, rfl, World.ownsRow_nil _ _ _ _, Ext.refl _⟩
  | some ad =>
    have hcell : ∀ j u, (nl n x)[j]? = some u → W.cell? (ad.add j) = some u := by
      intro j u hu
      have hj : j < n := by have := (List.getElem?_eq_some_iff.1 hu).1; rw [nl_len] at this; exact this
      obtain ⟨b, o, e, -, hcs⟩ := hex (by omega)
      cases e
      rw [nl_get x hj] at hu
      cases hu
      rw [Addr.add_lit]
      exact hcs j hj
    have HC := Lib.hid hcell
    clear hex hcell
    go_enter Tryz.func52, Tryz.ntmps52
    go_wp2_with (at_builtin; refine wpList_append_own _ rfl _ _ 22 rfl W.heap.size 3 i0 (.int .i64 0) 1 8 Tryz.underlying22 hi hz0 hz1 hz2 rfl (by decide) _ 0 [] rfl (World.ownsRow_lit W #[] 0 (Nat.le_refl _) (Nat.zero_le _) rfl) ad n c (nl n x) rfl ?qc1 ?qc2 ?qc3 ?qc4 ?qc5 ?qc6 ?_)
    case qc1 => rw [nl_len]; omega
    case qc2 =>
      intro j u hj
      exact Lib.cell?_alloc_some _ (HC.out j u hj)
    case qc3 => intro u hu; unfold nl at hu; obtain ⟨y, _, rfl⟩ := List.mem_map.1 hu; rfl
    case qc4 => unfold maxLen; omega
    case qc5 => omega
    case qc6 => simp
    intro v' w1 hown hgrow hnil
    clear hnil
    have hI : w1.ownsRow W.heap.size 3 1 v' n (nl n x) := by simpa using hown
    have hE : Ext W w1 := ⟨hgrow.os, hgrow.tape, hgrow.output, by have h1 := hgrow.size; simp at h1; omega, fun k hk => (hgrow.block k (by simp; omega) (fun e => by simp [Value.ownBlock] at e; omega)).trans (Below.heap_alloc _ _ k hk)⟩
    have HR := Lib.hid (And.intro hI hE)
    clear hI hE hown hgrow
    go_wp2
    go_ret
    exact ⟨v', rfl, HR.out.1, HR.out.2⟩

theorem Il.cut {W : World} {A : Option Addr} {n c k : Nat} {f : Nat → Int} (h : Il W (.slice A n c) n f) (hk : k ≤ n) : Il W (.slice A k c) k f := by
  obtain ⟨A', c', e, h1, h2, h3⟩ := h
  injection e with e1 e2 e3
  subst e1 e3
  exact ⟨A, c, rfl, Nat.le_trans hk h1, h2, fun hp => by
    obtain ⟨b, off, e, hb, hc⟩ := h3 (by omega)
    exact ⟨b, off, e, hb, fun j hj => hc j (by omega)⟩⟩
theorem ownFar {w : World} {base n size : Nat} {e : TypeId} {v : Value} {xs : List Value} (h : w.ownsRow base e size v n xs) (p : Addr) (hp : p.block < base) (u : Value) : (w.setCell p u).ownsRow base e size v n xs := by
  obtain ⟨h1, h2 | ⟨g, cap, cur, rfl, hb, hh, rest⟩⟩ := h
  · exact ⟨h1, .inl h2⟩
  · exact ⟨h1, .inr ⟨g, cap, cur, rfl, hb, (Below.heap_setCell w p u g (by omega)).trans hh, rest⟩⟩

set_option maxHeartbeats 4000000 in
set_option maxRecDepth 100000 in
/-- of: a copy of the first 82 at most -/
theorem of_any (n : Nat) (f : Nat → Int) (NV : Value) (W : World) (hN : Il W NV n f) :
    Calls Tryz.prog 12 #[.agg #[NV]] W fun e W' => ∃ U, e = .returned (.agg #[U]) ∧ Il W' U (min n 82) f ∧ Ext W W' := by
  obtain ⟨k, hk⟩ : ∃ k, k = min n 82 := ⟨_, rfl⟩
  have hkn : k ≤ n := by omega
  have hmin : min (n : Int) 82 = (k : Int) := by omega
  have HK := Lib.hid hk
  rw [← hk]
  clear hk
  have HN := Lib.hid hN
  obtain ⟨A, c, rfl, hac, hcm, -⟩ := hN
  go_enter Tryz.func12, Tryz.ntmps12
  go_upto_region 1 with fail
  have bb := al2 W (.cells #[.slice A n c] 24) (.cells #[.slice none 0 0] 29)
  have h0 := (Below.heap_alloc (W.alloc (.cells #[.slice A n c] 24)) (.cells #[.slice none 0 0] 29) W.heap.size (by simp)).trans (heap_alloc_new W (.cells #[.slice A n c] 24))
  have h1 := heap_alloc_new (W.alloc (.cells #[.slice A n c] 24)) (.cells #[.slice none 0 0] 29)
  simp only [World.size_alloc] at h1
  generalize (W.alloc (.cells #[.slice A n c] 24)).alloc (.cells #[.slice none 0 0] 29) = W1 at *
  obtain ⟨m0, -, mz⟩ := uno h0
  have HB : Hid (Ext W W1) := Lib.hid bb
  have H1 := Lib.hid h1
  clear bb h0 h1
  go_wp2_with fail
  refine (clone_any k f _ _ ((HN.out.ext HB.out).cut hkn) (by have := HK.out; omega)).mono ?_
  rintro e w2 ⟨U, rfl, hown, hx⟩
  have hil := ownsRow_il hown
  obtain ⟨c0, f0, l0⟩ := uno ((Below.block hx _ (uno H1.out).2.2).trans H1.out)
  have g0 : (w2.setCell ⟨W.heap.size + 1, 0, none⟩ U).cell? ⟨W.heap.size + 1, 0, none⟩ = some U := World.cell?_setCell_same _ _ _ c0
  have hx2 : Ext W (w2.setCell ⟨W.heap.size + 1, 0, none⟩ U) := (HB.out.trans hx).sc (by omega)
  have hown2 : (w2.setCell ⟨W.heap.size + 1, 0, none⟩ U).ownsRow W1.heap.size 3 1 U k (nl k f) := ownFar hown ⟨W.heap.size + 1, 0, none⟩ (uno H1.out).2.2 U
  have HF := Lib.hid (And.intro (ownsRow_il hown2) hx2)
  obtain ⟨A2, c2, rfl⟩ := shape_own hown
  clear hown hil hx hx2 hown2 m0 l0
  go_wp2
  exact bodyPost_ret (v := .agg #[.slice A2 k c2]) (by simp [results, Tryz.results12, go_sem, g0]) rfl ⟨_, rfl, HF.out.1, HF.out.2⟩
end Go.Proofs.YtijhbmdbnnmogaaGreat.G
namespace Go.Proofs.YtijhbmdbnnmogaaGreat.G
open Go.RowKit

theorem vMap_cut2 (n : Nat) (f : Nat → Int) : vMap (min n 82) f = vMap n f := by
  by_cases h : n ≤ 82
  · rw [Nat.min_eq_left h]
  · rw [Nat.min_eq_right (by omega)]
    unfold vMap
    rw [decide_eq_false (by omega), decide_eq_false (by omega), Bool.false_and, Bool.false_and]
/-- no list, and an error -/
theorem sets_err {n : Nat} {f : Nat → Int} {er0 : Int} (h : (vMap n f = false ∧ er0 = 2) ∨ (vMap n f = true ∧ 12 < n / 2 ∧ er0 = 3)) {Q : (Nat → Nat) → Nat → Bool} {v : Value} {er : Int} {W' : World} (g : SetsOf (min n 82) f Q v er W') : v = .slice none 0 0 ∧ er = er0 := by
  unfold SetsOf at g
  rw [vMap_cut2] at g
  rcases h with ⟨h1, rfl⟩ | ⟨h1, h2, rfl⟩
  · rcases g with ⟨-, g1, g2⟩ | ⟨g, -⟩ | ⟨g, -⟩
    · exact ⟨g1, g2⟩
    · rw [h1] at g; cases g
    · rw [h1] at g; cases g
  · have hn : n ≤ 80 := (vMap_mp h1).le
    rw [Nat.min_eq_left (by omega)] at g
    rcases g with ⟨g, -⟩ | ⟨-, -, g1, g2⟩ | ⟨-, g, -⟩
    · rw [h1] at g; cases g
    · exact ⟨g1, g2⟩
    · omega
set_option maxHeartbeats 4000000 in
set_option maxRecDepth 100000 in
theorem crackleSets_err (n : Nat) (f : Nat → Int) (NV : Value) (W : World) (hN : Il W NV n f) (er0 : Int) (h : (vMap n f = false ∧ er0 = 2) ∨ (vMap n f = true ∧ 12 < n / 2 ∧ er0 = 3)) :
    Calls Tryz.prog 4 #[.agg #[NV]] W fun e W' => e = .returned (.bool true) ∧ Below W.heap.size W W' := by
  have HN := Lib.hid hN; have HH := Lib.hid h
  have hof : ∀ X, Ext W X → Calls Tryz.prog 12 #[.agg #[NV]] X fun e W' => ∃ U, e = .returned (.agg #[U]) ∧ Il W' U (min n 82) f ∧ Ext X W' := fun X hX => of_any n f NV X (hN.ext hX)
  have HOF := Lib.hid hof
  clear hof
  clear h
  obtain ⟨A, c, rfl, hac, hcm, -⟩ := hN
  go_enter Tryz.func4, Tryz.ntmps4
  go_upto_region 1 with fail
  have bb := al1 W (.cells #[.slice A n c] 24)
  obtain ⟨m0, -, mz⟩ := uno (heap_alloc_new W (.cells #[.slice A n c] 24))
  generalize W.alloc (.cells #[.slice A n c] 24) = W1 at *
  have HX : Hid (Ext W W1) := Lib.hid bb
  have HM := Lib.hid m0
  clear bb
  go_wp2_with fail
  refine (HOF.out _ HX.out).mono ?_
  rintro e w2 ⟨U, rfl, hu, hx⟩
  have HU := Lib.hid hu
  replace HX := Lib.hid (HX.out.trans hx)
  have HX1 := Lib.hid hx
  clear hu hx m0
  go_wp2_with fail
  refine (cycles_any _ f _ _ HU.out).mono ?_
  rintro e w3 ⟨v, er, rfl, hx, hs⟩
  obtain ⟨rfl, rfl⟩ := sets_err HH.out hs
  replace HX := Lib.hid (HX.out.trans hx)
  replace HX1 := Lib.hid (HX1.out.trans hx)
  have m0 := keepAt HX1.out mz HM.out
  clear hs hx
  go_wp2_with fail
  refine (HOF.out _ HX.out).mono ?_
  rintro e w4 ⟨U2, rfl, hu, hx⟩
  have HU2 := Lib.hid hu
  replace HX := Lib.hid (HX.out.trans hx)
  replace HX1 := Lib.hid (HX1.out.trans hx)
  clear hu hx m0
  go_wp2_with fail
  refine (bonds_any _ f _ _ HU2.out).mono ?_
  rintro e w5 ⟨v, er2, rfl, hx, hs⟩
  obtain ⟨rfl, rfl⟩ := sets_err HH.out hs
  replace HX := Lib.hid (HX.out.trans hx)
  replace HX1 := Lib.hid (HX1.out.trans hx)
  have m0 := keepAt HX1.out mz HM.out
  clear hs hx
  go_wp2_with fail
  refine (validR_any n f _ _ (HN.out.ext HX.out)).mono ?_
  rintro e w6 ⟨rfl, hx⟩
  replace HX := Lib.hid (HX.out.trans hx)
  replace HX1 := Lib.hid (HX1.out.trans hx)
  clear m0
  have m0 := keepAt HX1.out mz HM.out
  clear hx
  rcases HH.out with ⟨hv, rfl⟩ | ⟨hv, h12, rfl⟩
  · rw [hv]
    clear hv
    go_wp2_with fail
    refine (awake_any _).mono ?_
    rintro e w7 ⟨rfl, hx⟩
    have HF := Lib.hid (HX.out.trans hx)
    clear hx m0
    go_wp2
    go_ret
    exact ⟨rfl, HF.out⟩
  · rw [hv]
    have h24 : 24 < n := by omega
    clear hv h12
    go_wp2_with fail
    refine (awake_any _).mono ?_
    rintro e w7 ⟨rfl, hx⟩
    have HF := Lib.hid (HX.out.trans hx)
    clear hx m0
    go_wp2
    go_ret
    exact ⟨rfl, HF.out⟩
end Go.Proofs.YtijhbmdbnnmogaaGreat.G
