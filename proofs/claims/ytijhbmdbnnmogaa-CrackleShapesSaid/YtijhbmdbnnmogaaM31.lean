/- Walks: Grid. · Walks: awake: the square is counted. · Walks: the law CrackleNames. · The law CrackleNames, all inputs. -/
import Derived.Test.YtijhbmdbnnmogaaM30
import Derived.Test.YtijhbmdbnnmogaaM29
import Derived.Test.YtijhbmdbnnmogaaM9
import Derived.Test.YtijhbmdbnnmogaaM10
namespace Go.Proofs.Ytijhbmdbnnmogaa.G
open Go.RowKit

set_option maxHeartbeats 4000000 in
set_option maxRecDepth 100000 in
theorem grid_no (vw vh : Int) (W : World) (h : ¬ ((1 ≤ vw ∧ vw ≤ 5) ∧ 1 ≤ vh ∧ vh ≤ 5)) :
    Calls Try.prog 27 #[.int .i64 vw, .int .i64 vh] W fun e W' => e = .returned (.tuple #[.agg #[.slice none 0 0], .int .i64 2]) ∧ Ext W W' := by
  go_enter Try.func27, Try.ntmps27
  go_upto_region 1 with fail
  have bb := al1 W (.cells #[.slice none 0 0] 28)
  have h0 := heap_alloc_new W (.cells #[.slice none 0 0] 28)
  generalize W.alloc (.cells #[.slice none 0 0] 28) = W1 at *
  obtain ⟨q, hq⟩ : ∃ q, q = (decide (1 ≤ vw) && decide (vw ≤ 5)) := ⟨_, rfl⟩
  have HQ := Lib.hid hq
  have hfin : Ext W (W1.setCell ⟨W.heap.size, 0, none⟩ (.slice none 0 0)) := Ext.sc bb (Nat.le_refl _)
  obtain ⟨c0, f0, l0⟩ := uno h0
  have g0 : (W1.setCell ⟨W.heap.size, 0, none⟩ (.slice none 0 0)).cell? ⟨W.heap.size, 0, none⟩ = some (.slice none 0 0) := World.cell?_setCell_same _ _ _ c0
  have HF := Lib.hid hfin
  clear bb h0 hfin l0
  go_wp2_with fail
  refine (isBetween_any vw 1 5 _).mono ?_
  rintro e w2 ⟨rfl, rfl⟩
  rw [← HQ.out]
  cases q
  · have H := Lib.hid h; clear h hq
    go_wp2
    exact bodyPost_ret (v := .tuple #[.agg #[.slice none 0 0], .int .i64 2]) (by simp [results, Try.results27, go_sem, g0]) rfl ⟨rfl, HF.out⟩
  · have hw : 1 ≤ vw ∧ vw ≤ 5 := by simpa using hq.symm
    obtain ⟨r, hr⟩ : ∃ q, q = (decide (1 ≤ vh) && decide (vh ≤ 5)) := ⟨_, rfl⟩
    have hr0 : r = false := by
      cases hrr : r
      · rfl
      · rw [hrr] at hr; have : 1 ≤ vh ∧ vh ≤ 5 := by simpa using hr.symm
        exact absurd ⟨hw, this⟩ h
    rw [hr0] at hr
    have HR := Lib.hid hr; have H := Lib.hid h
    clear h hq hw hr hr0
    go_wp2_with fail
    refine (isBetween_any vh 1 5 _).mono ?_
    rintro e w2 ⟨rfl, rfl⟩
    rw [← HR.out]
    go_wp2
    exact bodyPost_ret (v := .tuple #[.agg #[.slice none 0 0], .int .i64 2]) (by simp [results, Try.results27, go_sem, g0]) rfl ⟨rfl, HF.out⟩

theorem vi_il {w : World} {base n : Nat} {v : Value} {l : List Int} (h : w.ownsRow base 3 1 v n (vi l)) (hl : l.length = n) : Il w v n (fun j => l.getD j 0) := by
  subst hl
  have e : vi l = nl l.length (fun j => l.getD j 0) := by
    refine List.ext_getElem (by simp [vi, nl]) fun j h1 h2 => ?_
    have hj : j < l.length := by simpa [vi] using h1
    simp [vi, nl, hj]
  rw [e] at h
  exact ownsRow_il h
theorem ard_mem {l : List Int} {i : Nat} (h : i < l.length) : l.getD i 0 ∈ l := by
  rw [List.getD_eq_getElem?_getD, List.getElem?_eq_getElem h]; exact List.getElem_mem h

theorem own_far {w : World} {base n size : Nat} {e : TypeId} {v : Value} {xs : List Value} (h : w.ownsRow base e size v n xs) (p : Addr) (hp : p.block < base) (u : Value) : (w.setCell p u).ownsRow base e size v n xs := by
  obtain ⟨h1, h2 | ⟨g, cap, cur, rfl, hb, hh, rest⟩⟩ := h
  · exact ⟨h1, .inl h2⟩
  · exact ⟨h1, .inr ⟨g, cap, cur, rfl, hb, (Below.heap_setCell w p u g (by omega)).trans hh, rest⟩⟩

set_option maxHeartbeats 8000000 in
set_option maxRecDepth 100000 in
theorem grid_ok (w h : Nat) (W : World) (w1 : 1 ≤ w) (w5 : w ≤ 5) (g1 : 1 ≤ h) (g5 : h ≤ 5) :
    Calls Try.prog 27 #[.int .i64 (w : Nat), .int .i64 (h : Nat)] W fun e W' => ∃ g, e = .returned (.tuple #[.agg #[.slice (some ⟨g, 0, none⟩) (ng w h) (ng w h)], .int .i64 0]) ∧ W.heap.size ≤ g ∧ BI W' g (ng w h) (gs w h (h * w)) ∧ Ext W W' := by
  obtain ⟨N, hN⟩ : ∃ N, N = ng w h := ⟨_, rfl⟩
  rw [← hN]
  have hN80 : N ≤ 80 := by rw [hN]; exact ng_le w (by omega) h (by omega)
  obtain ⟨P, hP⟩ : ∃ P : Nat, P = (w - 1) * h := ⟨_, rfl⟩
  obtain ⟨Q, hQ⟩ : ∃ Q : Nat, Q = w * (h - 1) := ⟨_, rfl⟩
  have hPQ : N = 2 * (P + Q) := by rw [hN, hP, hQ]; rfl
  have hmP : ((w : Int) - 1) * (h : Int) = (P : Int) := by rw [hP, Int.natCast_mul, Int.natCast_sub w1]; rfl
  have hmQ : (w : Int) * ((h : Int) - 1) = (Q : Int) := by rw [hQ, Int.natCast_mul, Int.natCast_sub g1]; rfl
  have hm1 : ∀ X, (Instr.makeSlice 22 (.int .i64 (2 * ((P : Int) + (Q : Int)))) (.int .i64 (2 * ((P : Int) + (Q : Int))))).run Try.prog X = .ok (.slice (some ⟨X.heap.size, 0, none⟩) N N) (X.alloc (.cells (Array.ofFn fun _ : Fin N => .int .i64 0) 3)) := fun X => by
    have e : (2 : Int) * ((P : Int) + (Q : Int)) = ((N : Nat) : Int) := by omega
    rw [e]; exact make_one 22 3 _ 8 Try.underlying22 info3 rfl (by omega) N (by omega) X
  have hP2 : P ≤ 40 ∧ Q ≤ 40 := by omega
  have HN := Lib.hid (And.intro hN hPQ)
  clear hP hQ hN hPQ
  have hb1 : (decide (1 ≤ (w : Int)) && decide ((w : Int) ≤ 5)) = true := by simp; omega
  have hb2 : (decide (1 ≤ (h : Int)) && decide ((h : Int) ≤ 5)) = true := by simp; omega
  go_enter Try.func27, Try.ntmps27
  go_upto_region 1 with fail
  have bb := al1 W (.cells #[.slice none 0 0] 28)
  have h0 := heap_alloc_new W (.cells #[.slice none 0 0] 28)
  generalize W.alloc (.cells #[.slice none 0 0] 28) = W1 at *
  have HB : Hid (Ext W W1) := Lib.hid bb
  have HH := Lib.hid h0
  clear bb
  go_wp2_with fail
  refine (isBetween_any w 1 5 _).mono ?_
  rintro e w2 ⟨rfl, rfl⟩
  rw [hb1]
  go_wp2_with fail
  refine (isBetween_any h 1 5 _).mono ?_
  rintro e w2 ⟨rfl, rfl⟩
  rw [hb2]
  clear hb1 hb2
  go_upto_region 4 with fail
  clear hmP hmQ hP2
  have O1 : Ext W1 ((W1.alloc (.cells (Array.ofFn fun _ : Fin N => Value.int .i64 0) 3)).alloc (.cells #[.slice (some ⟨W1.heap.size, 0, none⟩) N N] 28)) := al2 W1 _ _
  have y1 : BI ((W1.alloc (.cells (Array.ofFn fun _ : Fin N => Value.int .i64 0) 3)).alloc (.cells #[.slice (some ⟨W1.heap.size, 0, none⟩) N N] 28)) W1.heap.size N (fun _ => 0) := Bk.alloc (t := 3) (n := N) (f := fun _ => Value.int .i64 0) (heap_alloc_new W1 _) _
  have y2 := heap_alloc_new (W1.alloc (.cells (Array.ofFn fun _ : Fin N => Value.int .i64 0) 3)) (.cells #[.slice (some ⟨W1.heap.size, 0, none⟩) N N] 28)
  simp only [World.size_alloc] at y2
  obtain ⟨g, hg⟩ : ∃ g, g = W1.heap.size := ⟨_, rfl⟩
  have hgW : W.heap.size < g := by rw [hg]; exact (uno h0).2.2
  rw [← hg] at y1 y2 O1 ⊢
  obtain ⟨z, hz⟩ : ∃ z, z = g + 1 := ⟨_, rfl⟩
  rw [← hz] at y2 ⊢
  have hgz : g ≠ z := by omega
  generalize (W1.alloc (.cells (Array.ofFn fun _ : Fin N => Value.int .i64 0) 3)).alloc (.cells #[.slice (some ⟨g, 0, none⟩) N N] 28) = W3 at *
  have HY := Lib.hid (And.intro y1 (And.intro y2 O1))
  have HGW := Lib.hid (And.intro hg hz)
  clear y1 y2 O1 hg hz h0
  go_wp2_with fail
  go_loopw [34] (fun i wr => ∃ y : Nat, i = .int .i64 y ∧ y ≤ h ∧ Hid (BI wr g N (gs w h (y * w)) ∧ wr.heap[z]? = some (.cells #[.slice (some ⟨g, 0, none⟩) N N] 28 (0, 0)) ∧ Ext W1 wr)) (fun i _ => h - (intOf i).toNat)
  case atStart => exact ⟨0, rfl, Nat.zero_le _, Lib.hid ⟨by rw [Nat.zero_mul]; exact HY.out.1, HY.out.2.1, HY.out.2.2⟩⟩
  case round =>
    clear HY
    obtain ⟨y, rfl, hy, hin⟩ := hrel
    obtain ⟨wo, rfl⟩ : ∃ w, w = wr := ⟨_, rfl⟩
    by_cases hlt : y < h
    · have HIN := hin
      clear hin
      go_wp2_with fail
      go_loopw [38] (fun i wr => ∃ x : Nat, i = .int .i64 x ∧ x ≤ w ∧ Hid (BI wr g N (gs w h (y * w + x)) ∧ wr.heap[z]? = some (.cells #[.slice (some ⟨g, 0, none⟩) N N] 28 (0, 0)) ∧ Ext W1 wr)) (fun i _ => w - (intOf i).toNat)
      case atStart => exact ⟨0, rfl, Nat.zero_le _, Lib.hid ⟨by rw [Nat.add_zero]; exact HIN.out.1, HIN.out.2.1, HIN.out.2.2⟩⟩
      case round =>
        clear HIN
        obtain ⟨x, rfl, hx, hin⟩ := hrel
        obtain ⟨wp, rfl⟩ : ∃ w, w = wr := ⟨_, rfl⟩
        by_cases hlt2 : x < w
        · go_wp2_with fail
          refine (gridDarts_any w h x y _ (by omega) (by omega) (by omega) (by omega) (by omega) (by omega) (by omega) (by omega)).mono ?_
          rintro e w4 ⟨v, rfl, hown, hxx⟩
          have hgp : g < wp.heap.size := Bk.lt hin.out.1
          have hbi4 := hin.out.1.ext hxx
          have hz4 : w4.heap[z]? = some (.cells #[.slice (some ⟨g, 0, none⟩) N N] 28 (0, 0)) := (Below.block hxx z (Array.getElem?_eq_some_iff.1 hin.out.2.1).1).trans hin.out.2.1
          have hex4 := hin.out.2.2.trans hxx
          have hbd : ∀ i, i < (ard (w : Nat) (h : Nat) (x : Nat) (y : Nat) 4).length → ∃ d : Nat, (ard (w : Nat) (h : Nat) (x : Nat) (y : Nat) 4).getD i 0 = (d : Int) ∧ d < N := fun i hi => by
            have := ard_bd (by omega) (by omega) hlt2 hlt (ard_mem hi)
            rw [← HN.out.1] at this
            exact ⟨((ard (w : Nat) (h : Nat) (x : Nat) (y : Nat) 4).getD i 0).toNat, by omega, by omega⟩
          have hgs := gs_point (w := w) (h := h) (y := y) hlt2
          have hL4 := ard_len (w : Nat) (h : Nat) (x : Nat) (y : Nat) 4
          obtain ⟨l, hl⟩ : ∃ l, l = ard (w : Nat) (h : Nat) (x : Nat) (y : Nat) 4 := ⟨_, rfl⟩
          rw [← hl] at hown hbd hgs hL4
          obtain ⟨A, c, rfl⟩ := shape_own hown
          obtain ⟨L, hL⟩ : ∃ L, L = l.length := ⟨_, rfl⟩
          rw [← hL] at hown hbd hgs hL4 ⊢
          have H4 := Lib.hid (And.intro hbi4 (And.intro hz4 (And.intro hown hex4)))
          have HBD := Lib.hid hbd; have HGS := Lib.hid hgs; have HL := Lib.hid hL
          clear hbi4 hz4 hown hex4 hbd hgs hl hL hxx hin
          go_wp2_with fail
          go_loopw [48] (fun i wr => ∃ k : Nat, i = .int .i64 k ∧ k ≤ L ∧ Hid (BI wr g N (wrt l (gs w h (y * w + x)) k) ∧ wr.heap[z]? = some (.cells #[.slice (some ⟨g, 0, none⟩) N N] 28 (0, 0)) ∧ wr.ownsRow wp.heap.size 3 1 (.slice A L c) L (vi l) ∧ Ext W1 wr)) (fun i _ => L - (intOf i).toNat)
          case atStart => exact ⟨0, rfl, Nat.zero_le _, H4⟩
          case round =>
            clear H4
            obtain ⟨k, rfl, hk, hin⟩ := hrel
            by_cases hlt3 : k < L
            · have hIl := vi_il hin.out.2.2.1 HL.out.symm
              obtain ⟨d, hd, hdN⟩ := HBD.out k hlt3
              obtain ⟨b1, o1, rfl, -, e1⟩ := Vl.at hIl (Ext.refl _) hlt3
              dsimp only at e1
              rw [hd] at e1
              obtain ⟨r, hr⟩ : ∃ r, r = (k + 1) % L := ⟨_, rfl⟩
              have hrL : r < L := by rw [hr]; exact Nat.mod_lt _ (by omega)
              obtain ⟨b2, o2, eq2, -, e2⟩ := Vl.at hIl (Ext.refl _) hrL
              injection eq2 with eq2
              injection eq2 with eqb eqo
              subst eqb eqo
              obtain ⟨u, hu⟩ : ∃ u, u = l.getD r 0 := ⟨_, rfl⟩
              dsimp only at e2
              rw [← hu] at e2
              have hrem : ((k : Int) + 1).tmod L = r := by
                rw [Int.tmod_eq_emod_of_nonneg (by omega), hr, Int.natCast_emod, Int.natCast_add]; rfl
              have hL0 : 0 < L := by omega
              have HR := Lib.hid (And.intro hd (And.intro hr hu))
              obtain ⟨z0, z1, -⟩ := uno hin.out.2.1
              have HIL := Lib.hid hIl
              clear hd hr hu hIl
              go_upto_region 14 with fail
              have zd : wr.drew.cell? ⟨z, 0, none⟩ = some (.slice (some ⟨g, 0, none⟩) N N) := z0
              have ed : wr.drew.cell? ⟨b1, o1 + r, none⟩ = some (.int .i64 u) := e2
              have cd : wr.drew.cell? ⟨g, d, none⟩ = some (.int .i64 (wrt l (gs w h (y * w + x)) k d)) := Bk.cell hin.out.1 hdN
              have fd : wr.drew.frozen? ⟨g, d, none⟩ = false := Bk.free hin.out.1 d
              have b2' : BI (wr.drew.setCell ⟨g, d, none⟩ (.int .i64 u)) g N (up (wrt l (gs w h (y * w + x)) k) d u) := BI.set_ (Bk.drew hin.out.1) d u
              have z2' : (wr.drew.setCell ⟨g, d, none⟩ (.int .i64 u)).heap[z]? = some (.cells #[.slice (some ⟨g, 0, none⟩) N N] 28 (0, 0)) := (Below.heap_setCell wr.drew ⟨g, d, none⟩ _ z (fun e => hgz e.symm)).trans hin.out.2.1
              have o2' : (wr.drew.setCell ⟨g, d, none⟩ (.int .i64 u)).ownsRow wp.heap.size 3 1 (.slice (some ⟨b1, o1, none⟩) L c) L (vi l) := own_far (w := wr.drew) hin.out.2.2.1 ⟨g, d, none⟩ hgp _
              have x2' : Ext W1 (wr.drew.setCell ⟨g, d, none⟩ (.int .i64 u)) := (hin.out.2.2.2.drw).sc (Nat.le_of_eq HGW.out.1.symm)
              have F2 := Lib.hid (And.intro b2' (And.intro z2' (And.intro o2' x2')))
              clear b2' z2' o2' x2' z0 e1 e2
              go_region
              clear zd ed cd fd
              go_wp2
              go_roundw
              case rel =>
                refine ⟨k + 1, by go_num, by omega, Lib.hid ⟨?_, F2.out.2.1, F2.out.2.2.1, F2.out.2.2.2⟩⟩
                have e : wrt l (gs w h (y * w + x)) (k + 1) = up (wrt l (gs w h (y * w + x)) k) d u := by
                  show up _ (l.getD k 0).toNat (l.getD ((k + 1) % l.length) 0) = _
                  rw [← HL.out, HR.out.1, ← HR.out.2.1, ← HR.out.2.2]; rfl
                rw [e]; exact F2.out.1
              case measure => simp [intOf]; omega
            · obtain rfl : k = L := by omega
              have HX := hin
              clear hin
              go_wp2
              go_roundw
              case rel =>
                refine ⟨x + 1, by go_num, by omega, Lib.hid ⟨?_, HX.out.2.1, HX.out.2.2.2⟩⟩
                rw [← Nat.add_assoc, HGS.out]; exact HX.out.1
              case measure => simp [intOf]; omega
        · obtain rfl : x = w := by omega
          have HX := hin
          clear hin
          go_wp2
          go_roundw
          case rel =>
            refine ⟨y + 1, by go_num, by omega, Lib.hid ⟨?_, HX.out.2.1, HX.out.2.2⟩⟩
            rw [Nat.add_mul, Nat.one_mul]; exact HX.out.1
          case measure => simp [intOf]; omega
    · obtain rfl : y = h := by omega
      obtain ⟨z0, z1, -⟩ := uno hin.out.2.1
      obtain ⟨c0, f0, l0⟩ := uno HH.out
      have c0' := keepAt hin.out.2.2 l0 c0
      have f0' := ((bcell hin.out.2.2).2 _ 0 l0).trans (f0 0)
      have g0 : (wo.setCell ⟨W.heap.size, 0, none⟩ (.slice (some ⟨g, 0, none⟩) N N)).cell? ⟨W.heap.size, 0, none⟩ = some (.slice (some ⟨g, 0, none⟩) N N) := World.cell?_setCell_same _ _ _ c0'
      have b3 : BI (wo.setCell ⟨W.heap.size, 0, none⟩ (.slice (some ⟨g, 0, none⟩) N N)) g N (gs w y (y * w)) := Bk.far hin.out.1 (by show g ≠ W.heap.size; omega) _
      have x3 : Ext W (wo.setCell ⟨W.heap.size, 0, none⟩ (.slice (some ⟨g, 0, none⟩) N N)) := (HB.out.trans hin.out.2.2).sc (Nat.le_refl _)
      have HX := Lib.hid (And.intro b3 x3)
      clear hin b3 x3 c0 f0 l0 z1
      go_wp2
      exact bodyPost_ret (v := .tuple #[.agg #[.slice (some ⟨g, 0, none⟩) N N], .int .i64 0]) (by simp [results, Try.results27, go_sem, g0]) rfl ⟨g, rfl, by omega, HX.out.1, HX.out.2⟩
end Go.Proofs.Ytijhbmdbnnmogaa.G
namespace Go.Proofs.Ytijhbmdbnnmogaa.G
open Go.RowKit

theorem sq_trees (g : Nat) (W : World) (h : BI W g 8 sqf) : Calls Try.prog 37 #[.agg #[.slice (some ⟨g, 0, none⟩) 8 8]] W fun e W' => e = .returned (.tuple #[.int .i64 4, .int .i64 0]) ∧ Ext W W' :=
  trees_one 4 sqf _ W (h.il (by omega)) sq_map (fun _ => 0) sqm sq_pt (sq_parts sq_pt) sq_nm 3 (sq_rank sq_nm) (by omega) sq_fit 4 sq_det (Fz.small (by omega)) (by omega)

set_option maxHeartbeats 4000000 in
set_option maxRecDepth 100000 in
theorem awake_any (W : World) : Calls Try.prog 14 #[] W fun e W' => e = .returned (.bool true) ∧ Ext W W' := by
  have hg : ∀ W, Calls Try.prog 27 #[.int .i64 2, .int .i64 2] W fun e W' => ∃ g, e = .returned (.tuple #[.agg #[.slice (some ⟨g, 0, none⟩) 8 8], .int .i64 0]) ∧ BI W' g 8 sqf ∧ Ext W W' := fun W => by
    refine (grid_ok 2 2 W (by omega) (by omega) (by omega) (by omega)).mono ?_
    rintro e W' ⟨g, rfl, -, hb, hx⟩
    exact ⟨g, rfl, Bk.congr hb (fun d hd => by rw [gs_sq d hd]), hx⟩
  have HG := Lib.hid hg
  clear hg
  go_enter Try.func14, Try.ntmps14
  go_wp2_with fail
  refine (HG.out W).mono ?_
  rintro e w1 ⟨g, rfl, hb, hx⟩
  have HB := Lib.hid (And.intro hb hx)
  clear hb hx
  go_upto_region 2 with fail
  have b2 := al1 w1 (.cells #[.slice (some ⟨g, 0, none⟩) 8 8] 28)
  obtain ⟨m0, -, mz⟩ := uno (heap_alloc_new w1 (.cells #[.slice (some ⟨g, 0, none⟩) 8 8] 28))
  generalize w1.alloc (.cells #[.slice (some ⟨g, 0, none⟩) 8 8] 28) = w2 at *
  have HX : Hid (Ext W w2) := Lib.hid (HB.out.2.trans b2)
  have HI := Lib.hid (HB.out.1.ext b2)
  clear b2
  go_wp2_with fail
  refine (sq_trees g _ HI.out).mono ?_
  rintro e w3 ⟨rfl, hx⟩
  have HX3 := Lib.hid (HX.out.trans hx)
  clear hx m0
  go_wp2
  go_ret
  exact ⟨rfl, HX3.out⟩
end Go.Proofs.Ytijhbmdbnnmogaa.G
namespace Go.Proofs.Ytijhbmdbnnmogaa.G
open Go.RowKit

set_option maxHeartbeats 8000000 in
set_option maxRecDepth 100000 in
theorem crackleNames_no (n q : Nat) (f : Nat → Int) (NV : Value) (W : World) (hN : Il W NV n f) (HV : Hid (vMap q f = false)) (HVN : Hid (vMap n f = false))
    (HO : Hid (∀ X, Il X NV n f → Calls Try.prog 8 #[.agg #[NV]] X fun e W' => ∃ U, e = .returned (.agg #[U]) ∧ Il W' U q f ∧ Ext X W')) :
    Calls Try.prog 3 #[.agg #[NV]] W fun e W' => e = .returned (.bool true) ∧ Below W.heap.size W W' := by
  have HN := Lib.hid hN
  obtain ⟨A, c, rfl, hac, hcm, -⟩ := hN
  go_enter Try.func3, Try.ntmps3
  go_upto_region 1 with fail
  have bb := al1 W (.cells #[.slice A n c] 24)
  obtain ⟨m0, -, mz⟩ := uno (heap_alloc_new W (.cells #[.slice A n c] 24))
  generalize W.alloc (.cells #[.slice A n c] 24) = W1 at *
  have HB : Hid (Ext W W1) := Lib.hid bb
  have HM := Lib.hid (And.intro mz m0)
  clear bb
  go_wp2_with fail
  refine (HO.out _ (HN.out.ext (HB.out.trans (Ext.refl W1)))).mono ?_
  rintro e u0 ⟨U0, rfl, hu, hx⟩
  have HU0 := Lib.hid hu
  obtain ⟨Au0, cu0, rfl, -⟩ := hu
  have xx := ((Ext.refl W1)).trans hx
  have hx0 := hx
  clear hx m0
  go_wp2_with fail
  refine (vertexS_any q f _ _ HU0.out).mono ?_
  rintro e s0 ⟨V0, er0, rfl, hx, hc⟩
  have HX0 : Hid (Ext W1 s0) := Lib.hid (xx.trans hx)
  have HE0 : Hid (Ext W1 s0) := Lib.hid (hx0.trans hx)
  obtain ⟨-, rfl, rfl⟩ | ⟨hv', -⟩ := hc
  rotate_left
  · rw [HV.out] at hv'; cases hv'
  have m0 := keepAt HX0.out mz HM.out.2
  clear hx xx hx0
  go_wp2_with fail
  refine (HO.out _ (HN.out.ext (HB.out.trans HX0.out))).mono ?_
  rintro e u1 ⟨U1, rfl, hu, hx⟩
  have HU1 := Lib.hid hu
  obtain ⟨Au1, cu1, rfl, -⟩ := hu
  have xx := (HX0.out).trans hx
  have hx0 := hx
  clear hx m0
  go_wp2_with fail
  refine (faceS_any q f _ _ HU1.out).mono ?_
  rintro e s1 ⟨V1, er1, rfl, hx, hc⟩
  have HX1 : Hid (Ext W1 s1) := Lib.hid (xx.trans hx)
  have HE1 : Hid (Ext s0 s1) := Lib.hid (hx0.trans hx)
  obtain ⟨-, rfl, rfl⟩ | ⟨hv', -⟩ := hc
  rotate_left
  · rw [HV.out] at hv'; cases hv'
  have m0 := keepAt HX1.out mz HM.out.2
  clear hx xx hx0
  go_wp2_with fail
  refine (HO.out _ (HN.out.ext (HB.out.trans HX1.out))).mono ?_
  rintro e u2 ⟨U2, rfl, hu, hx⟩
  have HU2 := Lib.hid hu
  obtain ⟨Au2, cu2, rfl, -⟩ := hu
  have xx := (HX1.out).trans hx
  have hx0 := hx
  clear hx m0
  go_wp2_with fail
  refine (partS_any q f _ _ HU2.out).mono ?_
  rintro e s2 ⟨V2, er2, rfl, hx, hc⟩
  have HX2 : Hid (Ext W1 s2) := Lib.hid (xx.trans hx)
  have HE2 : Hid (Ext s1 s2) := Lib.hid (hx0.trans hx)
  obtain ⟨-, rfl, rfl⟩ | ⟨hv', -⟩ := hc
  rotate_left
  · rw [HV.out] at hv'; cases hv'
  have m0 := keepAt HX2.out mz HM.out.2
  clear hx xx hx0
  go_wp2_with fail
  refine (HO.out _ (HN.out.ext (HB.out.trans HX2.out))).mono ?_
  rintro e u3 ⟨U3, rfl, hu, hx⟩
  have HU3 := Lib.hid hu
  obtain ⟨Au3, cu3, rfl, -⟩ := hu
  have xx := (HX2.out).trans hx
  have hx0 := hx
  clear hx m0
  go_wp2_with fail
  refine (euler_any q f _ _ HU3.out).mono ?_
  rintro e s3 ⟨ev, eq, ew, ep, er3, rfl, hx, hc⟩
  have HX3 : Hid (Ext W1 s3) := Lib.hid (xx.trans hx)
  have HE3 : Hid (Ext s2 s3) := Lib.hid (hx0.trans hx)
  obtain ⟨-, rfl, rfl, rfl, rfl, rfl⟩ | ⟨hv', -⟩ := hc
  rotate_left
  · rw [HV.out] at hv'; cases hv'
  have m0 := keepAt HX3.out mz HM.out.2
  clear hx xx hx0
  have HW := Lib.hid (And.intro (Nat.lt_of_lt_of_le mz HX3.out.size) m0)
  clear m0
  go_upto_region 5 with fail
  refine wp_region_noPanic ?_
  refine wp_region_held_drew (S := fun X => Ext s3 X) (by kernel_rfl) (Ext.drw (Ext.refl _)) (fun _ => ?_)
  refine take_at 0 (some 45) (.agg #[.slice A n c]) rfl rfl (by kernel_rfl) (by kernel_rfl) (by kernel_rfl) (fun _ _ _ h => h) (Or.inl ⟨by rfl, fun w' hSw => ?_⟩) (Ext.drw (Ext.refl _)) ?_
  · have z0 := keepAt hSw HW.out.1 HW.out.2
    try clear hSw
    go_simp
    all_goals (with_reducible rfl)
  try simp only [Act.put, List.setIfInBounds_toArray, List.set_cons_zero, List.set_cons_succ]
  refine take_at 3 (some 48) (.agg #[.slice A n c]) rfl rfl (by kernel_rfl) (by kernel_rfl) (by kernel_rfl) (fun _ _ _ h => h) (Or.inl ⟨by rfl, fun w' hSw => ?_⟩) (Ext.drw (Ext.refl _)) ?_
  · have z0 := keepAt hSw HW.out.1 HW.out.2
    try clear hSw
    go_simp
    all_goals (with_reducible rfl)
  try simp only [Act.put, List.setIfInBounds_toArray, List.set_cons_zero, List.set_cons_succ]
  refine wpAnyH_ready (rs := [1]) (by kernel_rfl) (by simp) ?_
  refine AllReadyH.cons rfl (fun K hK => ?_) AllReadyH.nil
  go_simp
  refine (HO.out _ (HN.out.ext (HB.out.trans (HX3.out.trans (Ext.drw (Ext.refl _)))))).mono ?_
  rintro e v1 ⟨U5, rfl, hu5, hb1⟩
  have e1 : Ext s3 v1 := (Ext.drw (Ext.refl _)).trans hb1
  try go_wp2_with fail
  refine hK.out _ _ e1 (fun _ => ?_)
  clear hK K
  try simp only [Act.put, List.setIfInBounds_toArray, List.set_cons_zero, List.set_cons_succ]
  have HU5 := Lib.hid hu5
  clear hu5
  refine wpAnyH_ready (rs := [2]) (by kernel_rfl) (by simp) ?_
  refine AllReadyH.cons rfl (fun K hK => ?_) AllReadyH.nil
  go_simp
  refine (validS_any q f _ _ HU5.out).mono ?_
  rintro e v2 ⟨rfl, hb2⟩
  have e2 : Ext s3 v2 := (e1).trans hb2
  try go_wp2_with fail
  refine hK.out _ _ e2 (fun _ => ?_)
  clear hK K
  try simp only [Act.put, List.setIfInBounds_toArray, List.set_cons_zero, List.set_cons_succ]
  rw [HV.out]
  refine wpAnyH_ready (rs := [4]) (by kernel_rfl) (by simp) ?_
  refine AllReadyH.cons rfl (fun K hK => ?_) AllReadyH.nil
  go_simp
  refine (validR_any n f _ _ (HN.out.ext (HB.out.trans (HX3.out.trans e2)))).mono ?_
  rintro e v4 ⟨rfl, hb4⟩
  have e4 : Ext s3 v4 := (e2).trans hb4
  try go_wp2_with fail
  refine hK.out _ _ e4 (fun _ => ?_)
  clear hK K
  try simp only [Act.put, List.setIfInBounds_toArray, List.set_cons_zero, List.set_cons_succ]
  rw [HVN.out]
  refine take_at 5 (some 50) (.bool false) rfl rfl (by kernel_rfl) (by kernel_rfl) (by kernel_rfl) (fun _ _ _ h => h) (Or.inl ⟨by rfl, fun w' hSw => ?_⟩) (e4) ?_
  · skip
    try clear hSw
    go_simp
    all_goals (first | (with_reducible rfl) | rfl | (simp; done))
  try simp only [Act.put, List.setIfInBounds_toArray, List.set_cons_zero, List.set_cons_succ]
  refine take_at 6 (some 51) (.bool false) rfl rfl (by kernel_rfl) (by kernel_rfl) (by kernel_rfl) (fun _ _ _ h => h) (Or.inl ⟨by rfl, fun w' hSw => ?_⟩) (e4) ?_
  · skip
    try clear hSw
    go_simp
    all_goals (with_reducible rfl)
  try simp only [Act.put, List.setIfInBounds_toArray, List.set_cons_zero, List.set_cons_succ]
  refine wpAnyH_ready (rs := [7]) (by kernel_rfl) (by simp) ?_
  refine AllReadyH.cons rfl (fun K hK => ?_) AllReadyH.nil
  go_simp
  refine (awake_any _).mono ?_
  rintro e v7 ⟨rfl, hb7⟩
  have e7 : Ext s3 v7 := (e4).trans hb7
  try go_wp2_with fail
  refine hK.out _ _ e7 (fun _ => ?_)
  clear hK K
  try simp only [Act.put, List.setIfInBounds_toArray, List.set_cons_zero, List.set_cons_succ]
  refine take_at 8 (some 53) (.bool false) rfl rfl (by kernel_rfl) (by kernel_rfl) (by kernel_rfl) (fun _ _ _ h => h) (Or.inl ⟨by rfl, fun w' hSw => ?_⟩) (e7) ?_
  · skip
    try clear hSw
    go_simp
    all_goals (with_reducible rfl)
  try simp only [Act.put, List.setIfInBounds_toArray, List.set_cons_zero, List.set_cons_succ]
  refine take_at 9 (some 54) (.bool false) rfl rfl (by kernel_rfl) (by kernel_rfl) (by kernel_rfl) (fun _ _ _ h => h) (Or.inl ⟨by rfl, fun w' hSw => ?_⟩) (e7) ?_
  · skip
    try clear hSw
    go_simp
    all_goals (with_reducible rfl)
  try simp only [Act.put, List.setIfInBounds_toArray, List.set_cons_zero, List.set_cons_succ]
  refine wpAnyH_done (by kernel_rfl) ?_ _
  refine NoPanic.normal ?_
  have HX7 : Hid (Ext W1 v7) := Lib.hid (HX3.out.trans e7)
  have E7 : Hid (Ext s3 v7) := Lib.hid e7
  have m0 := keepAt HX7.out mz HM.out.2
  clear e1 e2 e4 e7 hb1 hb2 hb4 hb7
  go_wp2_with fail
  refine (validR_any n f _ _ (HN.out.ext (HB.out.trans HX7.out))).mono ?_
  rintro e v8 ⟨rfl, hx⟩
  rw [HVN.out]
  have HX8 : Hid (Ext W1 v8) := Lib.hid (HX7.out.trans hx)
  have E8 : Hid (Ext v7 v8) := Lib.hid hx
  clear hx m0
  go_wp2
  go_ret
  exact ⟨rfl, HB.out.trans HX8.out⟩

set_option maxHeartbeats 8000000 in
set_option maxRecDepth 100000 in
theorem crackleNames_yes (n : Nat) (f : Nat → Int) (NV : Value) (W : World) (hN : Il W NV n f) (HV : Hid (vMap n f = true)) (HVN : Hid (vMap n f = true))
    (HO : Hid (∀ X, Il X NV n f → Calls Try.prog 8 #[.agg #[NV]] X fun e W' => ∃ U, e = .returned (.agg #[U]) ∧ Il W' U n f ∧ Ext X W')) :
    Calls Try.prog 3 #[.agg #[NV]] W fun e W' => e = .returned (.bool true) ∧ Below W.heap.size W W' := by
  have HN := Lib.hid hN
  obtain ⟨A, c, rfl, hac, hcm, -⟩ := hN
  go_enter Try.func3, Try.ntmps3
  go_upto_region 1 with fail
  have bb := al1 W (.cells #[.slice A n c] 24)
  obtain ⟨m0, -, mz⟩ := uno (heap_alloc_new W (.cells #[.slice A n c] 24))
  generalize W.alloc (.cells #[.slice A n c] 24) = W1 at *
  have HB : Hid (Ext W W1) := Lib.hid bb
  have HM := Lib.hid (And.intro mz m0)
  clear bb
  go_wp2_with fail
  refine (HO.out _ (HN.out.ext (HB.out.trans (Ext.refl W1)))).mono ?_
  rintro e u0 ⟨U0, rfl, hu, hx⟩
  have HU0 := Lib.hid hu
  obtain ⟨Au0, cu0, rfl, -⟩ := hu
  have xx := ((Ext.refl W1)).trans hx
  have hx0 := hx
  clear hx m0
  go_wp2_with fail
  refine (vertexS_any n f _ _ HU0.out).mono ?_
  rintro e s0 ⟨V0, er0, rfl, hx, hc⟩
  have HX0 : Hid (Ext W1 s0) := Lib.hid (xx.trans hx)
  have HE0 : Hid (Ext W1 s0) := Lib.hid (hx0.trans hx)
  obtain ⟨hv', -⟩ | ⟨-, rfl, k0, hk, hil⟩ := hc
  · rw [HV.out] at hv'; cases hv'
  have HK0 := Lib.hid (And.intro hk hil)
  obtain ⟨Av0, cv0, rfl, -⟩ := hil
  clear hk
  have m0 := keepAt HX0.out mz HM.out.2
  clear hx xx hx0
  go_wp2_with fail
  refine (HO.out _ (HN.out.ext (HB.out.trans HX0.out))).mono ?_
  rintro e u1 ⟨U1, rfl, hu, hx⟩
  have HU1 := Lib.hid hu
  obtain ⟨Au1, cu1, rfl, -⟩ := hu
  have xx := (HX0.out).trans hx
  have hx0 := hx
  clear hx m0
  go_wp2_with fail
  refine (faceS_any n f _ _ HU1.out).mono ?_
  rintro e s1 ⟨V1, er1, rfl, hx, hc⟩
  have HX1 : Hid (Ext W1 s1) := Lib.hid (xx.trans hx)
  have HE1 : Hid (Ext s0 s1) := Lib.hid (hx0.trans hx)
  obtain ⟨hv', -⟩ | ⟨-, rfl, k1, hk, hil⟩ := hc
  · rw [HV.out] at hv'; cases hv'
  have HK1 := Lib.hid (And.intro hk hil)
  obtain ⟨Av1, cv1, rfl, -⟩ := hil
  clear hk
  have m0 := keepAt HX1.out mz HM.out.2
  clear hx xx hx0
  go_wp2_with fail
  refine (HO.out _ (HN.out.ext (HB.out.trans HX1.out))).mono ?_
  rintro e u2 ⟨U2, rfl, hu, hx⟩
  have HU2 := Lib.hid hu
  obtain ⟨Au2, cu2, rfl, -⟩ := hu
  have xx := (HX1.out).trans hx
  have hx0 := hx
  clear hx m0
  go_wp2_with fail
  refine (partS_any n f _ _ HU2.out).mono ?_
  rintro e s2 ⟨V2, er2, rfl, hx, hc⟩
  have HX2 : Hid (Ext W1 s2) := Lib.hid (xx.trans hx)
  have HE2 : Hid (Ext s1 s2) := Lib.hid (hx0.trans hx)
  obtain ⟨hv', -⟩ | ⟨-, rfl, k2, hk, hil⟩ := hc
  · rw [HV.out] at hv'; cases hv'
  have HK2 := Lib.hid (And.intro hk hil)
  obtain ⟨Av2, cv2, rfl, -⟩ := hil
  clear hk
  have m0 := keepAt HX2.out mz HM.out.2
  clear hx xx hx0
  go_wp2_with fail
  refine (HO.out _ (HN.out.ext (HB.out.trans HX2.out))).mono ?_
  rintro e u3 ⟨U3, rfl, hu, hx⟩
  have HU3 := Lib.hid hu
  obtain ⟨Au3, cu3, rfl, -⟩ := hu
  have xx := (HX2.out).trans hx
  have hx0 := hx
  clear hx m0
  go_wp2_with fail
  refine (euler_any n f _ _ HU3.out).mono ?_
  rintro e s3 ⟨ev, eq, ew, ep, er3, rfl, hx, hc⟩
  have HX3 : Hid (Ext W1 s3) := Lib.hid (xx.trans hx)
  have HE3 : Hid (Ext s2 s3) := Lib.hid (hx0.trans hx)
  obtain ⟨hv', -⟩ | ⟨-, rfl, hEQ, mv, mf, mp, hmv, hmf, hmp, rfl, rfl, rfl⟩ := hc
  · rw [HV.out] at hv'; cases hv'
  have HEQ := Lib.hid hEQ
  clear hEQ
  have HMM := Lib.hid (And.intro hmv (And.intro hmf hmp))
  clear hmv hmf hmp
  have m0 := keepAt HX3.out mz HM.out.2
  clear hx xx hx0
  have HW := Lib.hid (And.intro (Nat.lt_of_lt_of_le mz HX3.out.size) m0)
  clear m0
  go_upto_region 5 with fail
  refine wp_region_noPanic ?_
  refine wp_region_held_drew (S := fun X => Ext s3 X) (by kernel_rfl) (Ext.drw (Ext.refl _)) (fun _ => ?_)
  refine take_at 0 (some 45) (.agg #[.slice A n c]) rfl rfl (by kernel_rfl) (by kernel_rfl) (by kernel_rfl) (fun _ _ _ h => h) (Or.inl ⟨by rfl, fun w' hSw => ?_⟩) (Ext.drw (Ext.refl _)) ?_
  · have z0 := keepAt hSw HW.out.1 HW.out.2
    try clear hSw
    go_simp
    all_goals (with_reducible rfl)
  try simp only [Act.put, List.setIfInBounds_toArray, List.set_cons_zero, List.set_cons_succ]
  refine take_at 3 (some 48) (.agg #[.slice A n c]) rfl rfl (by kernel_rfl) (by kernel_rfl) (by kernel_rfl) (fun _ _ _ h => h) (Or.inl ⟨by rfl, fun w' hSw => ?_⟩) (Ext.drw (Ext.refl _)) ?_
  · have z0 := keepAt hSw HW.out.1 HW.out.2
    try clear hSw
    go_simp
    all_goals (with_reducible rfl)
  try simp only [Act.put, List.setIfInBounds_toArray, List.set_cons_zero, List.set_cons_succ]
  refine wpAnyH_ready (rs := [1]) (by kernel_rfl) (by simp) ?_
  refine AllReadyH.cons rfl (fun K hK => ?_) AllReadyH.nil
  go_simp
  refine (HO.out _ (HN.out.ext (HB.out.trans (HX3.out.trans (Ext.drw (Ext.refl _)))))).mono ?_
  rintro e v1 ⟨U5, rfl, hu5, hb1⟩
  have e1 : Ext s3 v1 := (Ext.drw (Ext.refl _)).trans hb1
  try go_wp2_with fail
  refine hK.out _ _ e1 (fun _ => ?_)
  clear hK K
  try simp only [Act.put, List.setIfInBounds_toArray, List.set_cons_zero, List.set_cons_succ]
  have HU5 := Lib.hid hu5
  clear hu5
  refine wpAnyH_ready (rs := [2]) (by kernel_rfl) (by simp) ?_
  refine AllReadyH.cons rfl (fun K hK => ?_) AllReadyH.nil
  go_simp
  refine (validS_any n f _ _ HU5.out).mono ?_
  rintro e v2 ⟨rfl, hb2⟩
  have e2 : Ext s3 v2 := (e1).trans hb2
  try go_wp2_with fail
  refine hK.out _ _ e2 (fun _ => ?_)
  clear hK K
  try simp only [Act.put, List.setIfInBounds_toArray, List.set_cons_zero, List.set_cons_succ]
  rw [HV.out]
  refine wpAnyH_ready (rs := [4]) (by kernel_rfl) (by simp) ?_
  refine AllReadyH.cons rfl (fun K hK => ?_) AllReadyH.nil
  go_simp
  refine (validR_any n f _ _ (HN.out.ext (HB.out.trans (HX3.out.trans e2)))).mono ?_
  rintro e v4 ⟨rfl, hb4⟩
  have e4 : Ext s3 v4 := (e2).trans hb4
  try go_wp2_with fail
  refine hK.out _ _ e4 (fun _ => ?_)
  clear hK K
  try simp only [Act.put, List.setIfInBounds_toArray, List.set_cons_zero, List.set_cons_succ]
  rw [HVN.out]
  refine take_at 5 (some 50) (.bool false) rfl rfl (by kernel_rfl) (by kernel_rfl) (by kernel_rfl) (fun _ _ _ h => h) (Or.inl ⟨by rfl, fun w' hSw => ?_⟩) (e4) ?_
  · skip
    try clear hSw
    go_simp
    all_goals (first | (with_reducible rfl) | rfl | (simp; done))
  try simp only [Act.put, List.setIfInBounds_toArray, List.set_cons_zero, List.set_cons_succ]
  refine take_at 6 (some 51) (.bool false) rfl rfl (by kernel_rfl) (by kernel_rfl) (by kernel_rfl) (fun _ _ _ h => h) (Or.inl ⟨by rfl, fun w' hSw => ?_⟩) (e4) ?_
  · skip
    try clear hSw
    go_simp
    all_goals (with_reducible rfl)
  try simp only [Act.put, List.setIfInBounds_toArray, List.set_cons_zero, List.set_cons_succ]
  refine wpAnyH_ready (rs := [7]) (by kernel_rfl) (by simp) ?_
  refine AllReadyH.cons rfl (fun K hK => ?_) AllReadyH.nil
  go_simp
  refine (awake_any _).mono ?_
  rintro e v7 ⟨rfl, hb7⟩
  have e7 : Ext s3 v7 := (e4).trans hb7
  try go_wp2_with fail
  refine hK.out _ _ e7 (fun _ => ?_)
  clear hK K
  try simp only [Act.put, List.setIfInBounds_toArray, List.set_cons_zero, List.set_cons_succ]
  refine take_at 8 (some 53) (.bool false) rfl rfl (by kernel_rfl) (by kernel_rfl) (by kernel_rfl) (fun _ _ _ h => h) (Or.inl ⟨by rfl, fun w' hSw => ?_⟩) (e7) ?_
  · skip
    try clear hSw
    go_simp
    all_goals (with_reducible rfl)
  try simp only [Act.put, List.setIfInBounds_toArray, List.set_cons_zero, List.set_cons_succ]
  refine take_at 9 (some 54) (.bool false) rfl rfl (by kernel_rfl) (by kernel_rfl) (by kernel_rfl) (fun _ _ _ h => h) (Or.inl ⟨by rfl, fun w' hSw => ?_⟩) (e7) ?_
  · skip
    try clear hSw
    go_simp
    all_goals (with_reducible rfl)
  try simp only [Act.put, List.setIfInBounds_toArray, List.set_cons_zero, List.set_cons_succ]
  refine wpAnyH_done (by kernel_rfl) ?_ _
  refine NoPanic.normal ?_
  have HX7 : Hid (Ext W1 v7) := Lib.hid (HX3.out.trans e7)
  have E7 : Hid (Ext s3 v7) := Lib.hid e7
  have m0 := keepAt HX7.out mz HM.out.2
  clear e1 e2 e4 e7 hb1 hb2 hb4 hb7
  go_wp2_with fail
  refine (validR_any n f _ _ (HN.out.ext (HB.out.trans HX7.out))).mono ?_
  rintro e v8 ⟨rfl, hx⟩
  rw [HVN.out]
  have HX8 : Hid (Ext W1 v8) := Lib.hid (HX7.out.trans hx)
  have E8 : Hid (Ext v7 v8) := Lib.hid hx
  clear hx m0
  have m0 := keepAt HX8.out mz HM.out.2
  have hM := vMap_mp HVN.out
  have hn80 : n ≤ 80 := hM.le
  have HMP := Lib.hid hM
  clear hM
  go_wp2_with fail
  refine (eulerR_any n f _ _ (HN.out.ext (HB.out.trans HX8.out)) HMP.out mv mf mp HMM.out.1 HMM.out.2.1 HMM.out.2.2).mono ?_
  rintro e v9 ⟨rfl, hx⟩
  have HX9 : Hid (Ext W1 v9) := Lib.hid (HX8.out.trans hx)
  have E9 : Hid (Ext v8 v9) := Lib.hid hx
  clear hx m0
  have T3 := Lib.hid (E7.out.trans (E8.out.trans E9.out))
  have HT2 := Lib.hid (HE3.out.trans T3.out)
  have HT1 := Lib.hid (HE2.out.trans HT2.out)
  have HT0 := Lib.hid (HE1.out.trans HT1.out)
  have m0 := keepAt HX9.out mz HM.out.2
  obtain ⟨r1, hr1⟩ : ∃ r, r = ((rank mv n : Nat) : Int) := ⟨_, rfl⟩
  obtain ⟨r3, hr3⟩ : ∃ r, r = ((rank mf n : Nat) : Int) := ⟨_, rfl⟩
  obtain ⟨r4, hr4⟩ : ∃ r, r = ((rank mp n : Nat) : Int) := ⟨_, rfl⟩
  rw [← hr1, ← HEQ.out, ← hr3, ← hr4]
  clear hr1 hr3 hr4
  have hq1 : (r1 == r1) = true := by simp
  have hq2 : (eq == eq) = true := by simp
  have hq3 : (r3 == r3) = true := by simp
  have hq4 : (r4 == r4) = true := by simp
  go_wp2_with fail
  refine (vertexR_any n f _ _ (HN.out.ext (HB.out.trans HX9.out)) HMP.out k0 HK0.out.1).mono ?_
  rintro e a0 ⟨g0, rfl, hb, hx⟩
  have hi := hb.il (show n ≤ 9223372036854775807 by omega)
  have hxa : Ext s0 a0 := HT0.out.trans ((Ext.refl _).trans hx)
  clear m0 hb
  go_wp2_with fail
  refine (equalI_any n (fun d => ((k0 d : Nat) : Int)) _ _ _ (HK0.out.2.ext hxa) hi (by omega)).mono ?_
  rintro e b0 ⟨rfl, hx2⟩
  have HXb0 : Hid (Ext W1 b0) := Lib.hid (HX9.out.trans (hx.trans hx2))
  have m0 := keepAt HXb0.out mz HM.out.2
  have XP : Hid (Ext v9 b0) := Lib.hid ((Ext.refl _).trans (hx.trans hx2))
  clear hx hx2 hi hxa
  go_wp2_with fail
  refine (faceR_any n f _ _ (HN.out.ext (HB.out.trans HXb0.out)) HMP.out k1 HK1.out.1).mono ?_
  rintro e a1 ⟨g1, rfl, hb, hx⟩
  have hi := hb.il (show n ≤ 9223372036854775807 by omega)
  have hxa : Ext s1 a1 := HT1.out.trans (XP.out.trans hx)
  clear m0 hb
  go_wp2_with fail
  refine (equalI_any n (fun d => ((k1 d : Nat) : Int)) _ _ _ (HK1.out.2.ext hxa) hi (by omega)).mono ?_
  rintro e b1 ⟨rfl, hx2⟩
  have HXb1 : Hid (Ext W1 b1) := Lib.hid (HXb0.out.trans (hx.trans hx2))
  have m0 := keepAt HXb1.out mz HM.out.2
  have XP : Hid (Ext v9 b1) := Lib.hid (XP.out.trans (hx.trans hx2))
  clear hx hx2 hi hxa
  go_wp2_with fail
  refine (partR_any n f _ _ (HN.out.ext (HB.out.trans HXb1.out)) HMP.out k2 HK2.out.1).mono ?_
  rintro e a2 ⟨g2, rfl, hb, hx⟩
  have hi := hb.il (show n ≤ 9223372036854775807 by omega)
  have hxa : Ext s2 a2 := HT2.out.trans (XP.out.trans hx)
  clear m0 hb
  go_wp2_with fail
  refine (equalI_any n (fun d => ((k2 d : Nat) : Int)) _ _ _ (HK2.out.2.ext hxa) hi (by omega)).mono ?_
  rintro e b2 ⟨rfl, hx2⟩
  have HXb2 : Hid (Ext W1 b2) := Lib.hid (HXb1.out.trans (hx.trans hx2))
  have m0 := keepAt HXb2.out mz HM.out.2
  have XP : Hid (Ext v9 b2) := Lib.hid (XP.out.trans (hx.trans hx2))
  clear hx hx2 hi hxa
  clear m0
  go_wp2
  go_ret
  exact ⟨rfl, HB.out.trans HXb2.out⟩
end Go.Proofs.Ytijhbmdbnnmogaa.G
namespace Go.Proofs.Ytijhbmdbnnmogaa.G
open Go.RowKit

theorem vMap_cut (n : Nat) (f : Nat → Int) : vMap (min n 82) f = vMap n f := by
  by_cases h : n ≤ 82
  · rw [Nat.min_eq_left h]
  · rw [Nat.min_eq_right (by omega)]
    unfold vMap
    rw [decide_eq_false (by omega), decide_eq_false (by omega), Bool.false_and, Bool.false_and]
theorem crackleNames_walk (n : Nat) (f : Nat → Int) (NV : Value) (W : World) (hN : Il W NV n f) :
    Calls Try.prog 3 #[.agg #[NV]] W fun e W' => e = .returned (.bool true) ∧ Below W.heap.size W W' := by
  cases hv : vMap n f
  · exact crackleNames_no n (min n 82) f NV W hN (Lib.hid (by rw [vMap_cut]; exact hv)) (Lib.hid hv) (Lib.hid fun X hX => of_any n f NV X hX)
  · have hn : n ≤ 80 := (vMap_mp hv).le
    refine crackleNames_yes n f NV W hN (Lib.hid hv) (Lib.hid hv) (Lib.hid fun X hX => ?_)
    have h := of_any n f NV X hX
    rw [Nat.min_eq_left (by omega)] at h
    exact h
end Go.Proofs.Ytijhbmdbnnmogaa.G
