/- Rows of the call's own that grow. · Walks: without. -/
import Derived.Test.YtijhbmdbnnmogaaM2
import Derived.Maps.AppendAt
import Derived.Test.YtijhbmdbnnmogaaM4
import Derived.Test.YtijhbmdbnnmogaaM5
import Derived.Carry
namespace Go.Proofs.Ytijhbmdbnnmogaa.G
open Go.RowKit

/-- the list of the first k numbers -/
def nl (k : Nat) (x : Nat → Int) : List Value := (List.range k).map fun j => Value.int .i64 (x j)
theorem nl_get {k j : Nat} (x : Nat → Int) (h : j < k) : (nl k x)[j]? = some (.int .i64 (x j)) := by unfold nl; rw [List.getElem?_map, List.getElem?_range h]; rfl
theorem nl_len (k : Nat) (x : Nat → Int) : (nl k x).length = k := by simp [nl]
theorem nl_succ (k : Nat) (x : Nat → Int) : nl (k + 1) x = nl k x ++ [.int .i64 (x k)] := by simp [nl, List.range_succ]
theorem shape_own {w : World} {base : Nat} {e : TypeId} {size n : Nat} {v : Value} {xs : List Value} (h : w.ownsRow base e size v n xs) : ∃ A c, v = .slice A n c := by
  obtain ⟨-, ⟨rfl, rfl⟩ | ⟨g, cap, cur, rfl, -⟩⟩ := h
  · exact ⟨_, _, rfl⟩
  · exact ⟨_, _, rfl⟩
theorem own_mono {w : World} {base b' : Nat} {e : TypeId} {size n : Nat} {v : Value} {xs : List Value} (h : w.ownsRow base e size v n xs) (hb : b' ≤ base) : w.ownsRow b' e size v n xs :=
  ⟨h.1, h.2.imp id fun ⟨g, cap, cur, e, hg, rest⟩ => ⟨g, cap, cur, e, Nat.le_trans hb hg, rest⟩⟩
theorem ownsRow_il {w : World} {base n : Nat} {v : Value} {x : Nat → Int} (h : w.ownsRow base 3 1 v n (nl n x)) : Il w v n x := by
  obtain ⟨h1, ⟨rfl, h2⟩ | ⟨g, cap, cur, rfl, hb, hh, h5, h6, h7, h8⟩⟩ := h
  · subst h2
    exact ⟨none, 0, rfl, Nat.le_refl _, by omega, fun h => by omega⟩
  · refine ⟨_, cap, rfl, by omega, by simp only [maxLen] at *; omega, fun hp => ⟨g, 0, rfl, (Array.getElem?_eq_some_iff.1 hh).1, fun j hj => ?_⟩⟩
    rw [Nat.zero_add, cell_of_row w g j cur 3 (0, 0) hh]
    have h11 := nl_get x hj
    rw [← h8, List.getElem?_take, if_pos (by omega)] at h11
    simpa using h11
theorem ownsRow_far {w w' : World} {base n size : Nat} {e : TypeId} {v : Value} {xs : List Value} {r : Option Nat} (h : w.ownsRow base e size v n xs) (hg : w.grownBy w' r) (hne : ∀ b, v.ownBlock = some b → r ≠ some b) : w'.ownsRow base e size v n xs := by
  obtain ⟨h1, h2 | ⟨g, cap, cur, rfl, hb, hh, rest⟩⟩ := h
  · exact ⟨h1, .inl h2⟩
  · exact ⟨h1, .inr ⟨g, cap, cur, rfl, hb, (hg.block g (Array.getElem?_eq_some_iff.1 hh).1 (fun e => hne g rfl e.symm)).trans hh, rest⟩⟩
theorem ext_grow {X w w' : World} {base : Nat} {r : Option Nat} (e : Ext X w) (hg : w.grownBy w' r) (hr : ∀ b, r = some b → base ≤ b) (hb : X.heap.size ≤ base) : Ext X w' :=
  ⟨hg.os.trans e.os, hg.tape.trans e.tape, hg.output.trans e.output, Nat.le_trans e.size hg.size, fun b hb' => (hg.block b (Nat.lt_of_lt_of_le hb' e.size) (fun e2 => by have := hr b e2.symm; omega)).trans (e.block b hb')⟩
end Go.Proofs.Ytijhbmdbnnmogaa.G
namespace Go.Proofs.Ytijhbmdbnnmogaa.G
open Go.RowKit

theorem Mb.ext {w w' : World} {b N n : Nat} {P : Nat → Bool} {g : Nat → Nat} (h : Mb w b N n P g) (e : Ext w w') : Mb w' b N n P g := by
  obtain ⟨D, ⟨es, clock, hb, F, hs, hD⟩, hm⟩ := h
  exact ⟨D, ⟨es, clock, (Below.block e b (Array.getElem?_eq_some_iff.1 hb).1).trans hb, F, hs, hD⟩, hm⟩
theorem Mb.congr {w : World} {b N n : Nat} {P P' : Nat → Bool} {g g' : Nat → Nat} (h : Mb w b N n P g) (e1 : ∀ d, d < n → P d = P' d) (e2 : ∀ d, d < n → P d = true → g d = g' d) : Mb w b N n P' g' := by
  obtain ⟨D, h1, h2⟩ := h
  exact ⟨D, h1, h2.congr e1 e2⟩
theorem ext_map {X w w' : World} {b : Nat} (e : Ext X w) (hg : w.grownBy w' (some b)) (hb : X.heap.size ≤ b) : Ext X w' :=
  ext_grow (base := X.heap.size) e hg (fun _ h => by injection h with h; omega) (Nat.le_refl _)
theorem ext_grown {w w' : World} (h : Ext w w') : w.grownBy w' none := ⟨h.os, h.tape, h.output, h.size, fun i hi _ => h.block i hi⟩
theorem grown_set (w : World) (g i : Nat) (v : Value) : w.grownBy (w.setCell ⟨g, i, none⟩ v) (some g) := ⟨rfl, rfl, rfl, by simp [World.setCell], fun j _ hj => Below.heap_setCell w ⟨g, i, none⟩ v j (fun e => hj (by rw [e]))⟩
theorem three_at (W : World) (o1 o2 o3 : Value) (t1 t2 t3 : TypeId) : ∃ X, X = (((W.alloc (.cells #[o1] t1)).alloc (.cells #[o2] t2)).alloc (.cells #[o3] t3)) ∧ X.heap[W.heap.size]? = some (.cells #[o1] t1 (0, 0)) ∧
    X.heap[W.heap.size + 1]? = some (.cells #[o2] t2 (0, 0)) ∧ X.heap[W.heap.size + 1 + 1]? = some (.cells #[o3] t3 (0, 0)) ∧ X.heap.size = W.heap.size + 1 + 1 + 1 ∧ Ext W X := by
  refine ⟨_, rfl, ?_, ?_, ?_, by simp, al3 W _ _ _⟩
  · exact (Below.heap_alloc _ _ _ (by simp; omega)).trans ((Below.heap_alloc _ _ _ (by simp)).trans (heap_alloc_new W _))
  · have := heap_alloc_new (W.alloc (.cells #[o1] t1)) (.cells #[o2] t2)
    simp only [World.size_alloc] at this
    exact (Below.heap_alloc _ _ _ (by simp)).trans this
  · have := heap_alloc_new ((W.alloc (.cells #[o1] t1)).alloc (.cells #[o2] t2)) (.cells #[o3] t3)
    simp only [World.size_alloc] at this
    exact this

set_option maxHeartbeats 8000000 in
set_option maxRecDepth 100000 in
theorem without_any (n e : Nat) (f : Nat → Int) (NV : Value) (W : World) (hN : Il W NV n f) (hM : Mp n f) (he : 2 * e + 1 < n) :
    Calls Try.prog 42 #[.agg #[NV], .int .i64 (e : Nat)] W fun r W' => ∃ g, r = .returned (.agg #[.slice (some ⟨g, 0, none⟩) (n - 2) (n - 2)]) ∧ W.heap.size ≤ g ∧ BI W' g (n - 2) (fun j => ((dl (tn f) e j : Nat) : Int)) ∧ Ext W W' := by
  have hn80 := hM.le
  have HN := Lib.hid hN; have HM := Lib.hid hM
  obtain ⟨A, c, rfl, hac, hcm, -⟩ := hN
  clear hM
  have hmm := @run_makeMap Try.prog
  go_enter Try.func42, Try.ntmps42
  go_upto_region 1 with fail
  obtain ⟨w2, hw2, h0, h1, h2, hz2, hx2⟩ := three_at W (.slice A n c) (.int .i64 (e : Nat)) (.slice none 0 0) 28 3 28
  rw [← hw2]
  clear hw2
  obtain ⟨m0, -, mz0⟩ := uno h0
  obtain ⟨m1, -, mz1⟩ := uno h1
  have HH := Lib.hid (And.intro m0 (And.intro m1 h2))
  have HX2 := Lib.hid hx2
  have HZ2 := Lib.hid hz2
  clear h0 h1 h2 hx2 m1 hz2
  go_upto_region 2 with fail
  obtain ⟨b, hb⟩ : ∃ b, b = w2.heap.size := ⟨_, rfl⟩
  have hmb : Mb (w2.alloc (.map #[] 0)) b 0 n (fun _ => false) (tn f) := ⟨_, by rw [hb]; exact World.ownsMap_made _ _ _ _, Mv.empty n _⟩
  have hx3 : Ext w2 (w2.alloc (.map #[] 0)) := Ext.alc (Ext.refl _) _
  rw [← hb]
  have hbw : w2.heap.size ≤ b := by omega
  generalize w2.alloc (.map #[] 0) = w3 at *
  have H3 := Lib.hid (And.intro hmb hx3)
  have HB := Lib.hid hb
  have m0' := keepAt hx3 mz0 m0
  clear hmb hx3 hb m0 hmm
  go_wp2_with fail
  clear m0'
  go_loopw [15] (fun i wr => ∃ k : Nat, i = .int .i64 k ∧ k ≤ n ∧ Hid (Mb wr b k n (fun x => decide (x < k)) (tn f) ∧ Ext w2 wr)) (fun i _ => n - (intOf i).toNat)
  case atStart => exact ⟨0, rfl, Nat.zero_le _, Lib.hid ⟨H3.out.1.congr (fun d _ => by simp) (fun d _ _ => rfl), H3.out.2⟩⟩
  case round =>
    clear H3
    obtain ⟨k, rfl, hk, hin⟩ := hrel
    by_cases hlt : k < n
    · have m0 := keepAt hin.out.2 mz0 HH.out.1
      go_wp2_with fail
      refine (turn_any n f _ k _ (HN.out.ext (HX2.out.trans hin.out.2)) hlt).mono ?_
      rintro r w4 ⟨rfl, hx⟩
      rw [← HM.out.tn_eq hlt]
      obtain ⟨z, hz⟩ : ∃ z, z = tn f k := ⟨_, rfl⟩
      rw [← hz]
      have hzn : z < n := by rw [hz]; exact HM.out.tn_lt hlt
      obtain ⟨D, hown, hmv⟩ := hin.out.1.ext hx
      have hm2 := (hmv.put (v := z) hlt).congr (P' := fun x => decide (x < k + 1)) (g' := tn f) (fun r _ => by
          by_cases e : r = k
          · subst e; rw [up_self]; exact (decide_eq_true (by omega)).symm
          · rw [up_ne _ _ e]
            by_cases e2 : r < k
            · rw [decide_eq_true e2, decide_eq_true (by omega)]
            · rw [decide_eq_false e2, decide_eq_false (by omega)]) (fun r _ _ => by
          by_cases e : r = k
          · subst e; rw [up_self, hz]
          · rw [up_ne _ _ e])
      have HF := Lib.hid (And.intro hown (And.intro hm2 (hin.out.2.trans hx)))
      clear hown hmv hm2 hx hz m0 hin
      go_wp2_with (first | (at_mapUpdate; refine wpList_mapUpdate_own _ rfl _ _ _ 80 rfl 3 3 law3 Try.underlying80 (plainElem Try.prog 3) b k D rfl HF.out.1 (by unfold maxLen; omega) _ _ (kl k) rfl rfl (kl_key k (by omega)) (vl z) [] (vl_elem z (by omega)) ?_) | fail)
      intro w5 hown5 hg5
      have HG : Hid (Mb w5 b (k + 1) n (fun x => decide (x < k + 1)) (tn f) ∧ Ext w2 w5) := Lib.hid ⟨⟨_, hown5, HF.out.2.1⟩, ext_map HF.out.2.2 hg5 hbw⟩
      clear hown5 hg5
      go_wp2
      go_roundw
      case rel => exact ⟨k + 1, by go_num, by omega, HG⟩
      case measure => simp [intOf]; omega
    · obtain rfl : k = n := by omega
      have hro : Ro k (fun x => decide (x < k)) (tn f) := ro_all (fun x hx => HM.out.tn_lt hx) (fun x y hx hy e => HM.out.inj x y hx hy (by rw [← HM.out.tn_eq hx, ← HM.out.tn_eq hy, e]))
      have m1 := keepAt hin.out.2 mz1 HH.out.2.1
      have ha : 2 * e < k := by omega
      have hr1 := hro.rm ha (decide_eq_true ha)
      have hcast : 2 * (e : Int) = ((2 * e : Nat) : Int) := by omega
      have HRO := Lib.hid (And.intro hro hr1)
      clear hro hr1
      obtain ⟨a, haa⟩ : ∃ a, a = 2 * e := ⟨_, rfl⟩
      have HAA := Lib.hid haa
      rw [← haa] at hcast
      obtain ⟨a1, haa1⟩ : ∃ a1, a1 = a + 1 := ⟨_, rfl⟩
      have hcast1 : (a : Int) + 1 = (a1 : Int) := by omega
      have HA1 := Lib.hid haa1
      have ha1100 : a1 ≤ 101 := by omega
      clear haa1
      have ha1000 : a ≤ 100 := by omega
      clear haa
      go_wp2_with fail
      refine (remove_any b k k (fun x => decide (x < k)) (tn f) a _ hin.out.1 HRO.out.1 (by have := HAA.out; omega) (decide_eq_true (by have := HAA.out; omega)) (by omega) (by omega)).mono ?_
      rintro r w6 ⟨⟨v6, rfl⟩, hm6, hg6⟩
      have hx6 := ext_map hin.out.2 hg6 hbw
      have H6 := Lib.hid (And.intro hm6 hx6)
      have m1 := keepAt hx6 mz1 HH.out.2.1
      clear hm6 hg6 hx6
      go_wp2_with fail
      refine (remove_any b (k + 1) k (bt (fun x => decide (x < k)) a) (rm (tn f) a) a1 _ H6.out.1 (by rw [HAA.out]; exact HRO.out.2) (by have := HAA.out; have := HA1.out; omega) (bt_iff.2 ⟨decide_eq_true (by have := HAA.out; have := HA1.out; omega), by have := HA1.out; omega⟩) (by omega) (by omega)).mono ?_
      rintro r w7 ⟨⟨v7, rfl⟩, hm7, hg7⟩
      have hx7 := ext_map H6.out.2 hg7 hbw
      obtain ⟨D, hown, hmv⟩ := hm7
      obtain ⟨N, hN⟩ : ∃ N, N = k - 2 := ⟨_, rfl⟩
      have hsize : Maps.size D = N := by
        have h1 := cn_bt (P := fun x => decide (x < k)) (d := a) (decide_eq_true (by have := HAA.out; omega)) k (by have := HAA.out; omega)
        have h2 := cn_bt (P := bt (fun x => decide (x < k)) a) (d := a1) (bt_iff.2 ⟨decide_eq_true (by have := HAA.out; have := HA1.out; omega), by have := HA1.out; omega⟩) k (by have := HAA.out; have := HA1.out; omega)
        have h3 := cn_all k k (Nat.le_refl _)
        rw [hmv.sz]
        omega
      have hm7 : Mv D k (fun x => decide (x < k) && decide (x ≠ a) && decide (x ≠ a1)) (dk (tn f) e) := hmv.congr (fun r _ => by unfold bt; rfl) (fun r _ _ => by unfold dk; rw [← HAA.out, ← HA1.out])
      have H7 := Lib.hid (And.intro hown (And.intro hm7 hx7))
      have HS := Lib.hid hsize
      have HNN := Lib.hid hN
      have hN80 : N ≤ 80 := by omega
      clear hmv hm7 hx7 hg7 hsize hN m1 H6 hcast hcast1 hin
      have hm1 : ∀ w, (Instr.makeSlice 22 (.int .i64 (N : Int)) (.int .i64 (N : Int))).run Try.prog w = .ok (.slice (some ⟨w.heap.size, 0, none⟩) N N) (w.alloc (.cells (Array.ofFn fun _ : Fin N => .int .i64 0) 3)) := fun w => make_one 22 3 _ 8 Try.underlying22 info3 rfl (by omega) N (by omega) w
      have hsz := HS.out
      go_upto_region 11 with (first | (at_len; refine wpList_len_own _ rfl _ 80 rfl 3 3 Try.underlying80 (plainElem Try.prog 3) b (k + 1 + 1) D rfl hown ?_) | fail)
      clear hsz
      have O1 : Ext w7 ((w7.alloc (.cells (Array.ofFn fun _ : Fin N => Value.int .i64 0) 3)).alloc (.cells #[.slice (some ⟨w7.heap.size, 0, none⟩) N N] 28)) := al2 w7 _ _
      have y1 : BI ((w7.alloc (.cells (Array.ofFn fun _ : Fin N => Value.int .i64 0) 3)).alloc (.cells #[.slice (some ⟨w7.heap.size, 0, none⟩) N N] 28)) w7.heap.size N (fun _ => 0) := Bk.alloc (t := 3) (n := N) (f := fun _ => Value.int .i64 0) (heap_alloc_new w7 _) _
      have y2 := heap_alloc_new (w7.alloc (.cells (Array.ofFn fun _ : Fin N => Value.int .i64 0) 3)) (.cells #[.slice (some ⟨w7.heap.size, 0, none⟩) N N] 28)
      simp only [World.size_alloc] at y2
      obtain ⟨g, hg⟩ : ∃ g, g = w7.heap.size := ⟨_, rfl⟩
      rw [← hg] at y1 y2 O1 ⊢
      obtain ⟨z, hz⟩ : ∃ z, z = g + 1 := ⟨_, rfl⟩
      rw [← hz] at y2 ⊢
      generalize (w7.alloc (.cells (Array.ofFn fun _ : Fin N => Value.int .i64 0) 3)).alloc (.cells #[.slice (some ⟨g, 0, none⟩) N N] 28) = w8 at *
      have hbg : b < g := by rw [hg]; exact H7.out.1.lt
      have hown8 : w8.ownsMap Try.prog 3 (plainElem Try.prog 3) b (k + 1 + 1) D := hown.kept (ext_grown O1) (by simp)
      have hz8 : z < w8.heap.size := (uno y2).2.2
      have HY := Lib.hid (And.intro y1 (And.intro y2 O1))
      have HGZ := Lib.hid (And.intro hg hz)
      clear y1 y2 O1 hg hz hown hm1
      obtain ⟨w9, hrun9, hrg, hg9, hs9⟩ := hown8.range law3 Try.underlying80
      obtain ⟨ri, hri⟩ : ∃ r, r = w8.heap.size := ⟨_, rfl⟩
      rw [← hri] at hrg hs9 hrun9
      have e9 : Ext w8 w9 := ext_grow (base := w8.heap.size) (Ext.refl _) hg9 (fun _ h => by cases h) (Nat.le_refl _)
      have H9 := Lib.hid (And.intro hrg (And.intro (HY.out.1.ext e9) (And.intro ((Below.block e9 z hz8).trans HY.out.2.1) (HY.out.2.2.trans e9))))
      have HRI := Lib.hid (And.intro hri hz8)
      clear hrg hg9 hs9 e9 hri hown8 hz8 HY
      go_wp2_with fail
      clear hrun9
      go_loopw [] (fun wr => ∃ (left : Lit → Bool) (cnt : Nat), wr.ranges Try.prog 3 (plainElem Try.prog 3) b ri (k + 1 + 1) D left cnt ∧ (∀ q, left q = true → Maps.has D q = true) ∧ BI wr g N (fun j => if left (kl (un e j)) = true then 0 else ((dl (tn f) e j : Nat) : Int)) ∧
          wr.heap[z]? = some (.cells #[.slice (some ⟨g, 0, none⟩) N N] 28 (0, 0)) ∧ Ext w7 wr) (fun wr => wr.rangeLeft b ri)
      case atStart =>
        refine ⟨_, _, H9.out.1, fun q h => h, Bk.congr H9.out.2.1 (fun j hj => ?_), H9.out.2.2.1, H9.out.2.2.2⟩
        have hlt : un e j < k := un_lt (by omega) (by have := HNN.out; omega)
        have hp : Maps.has D (kl (un e j)) = true := by
          rw [H7.out.2.1.hasd hlt]
          have h1 := un_ne (e := e) (j := j)
          have h2 := HAA.out
          have h3 := HA1.out
          simp only [decide_eq_true hlt, decide_eq_true (show un e j ≠ a by omega), decide_eq_true (show un e j ≠ a1 by omega), Bool.and_true]
        dsimp only
        rw [if_pos hp]
      case round =>
        clear H9
        obtain ⟨left, cnt, hrg, hlf, hbi, hzc, hxw⟩ := hrel
        have HRG0 := Lib.hid hrg
        have HLF := Lib.hid (And.intro hlf hrg)
        have HB0 := Lib.hid (And.intro hbi (And.intro hzc hxw))
        clear hlf hbi hzc hxw
        go_wp2_with (first | (at_next; refine wpList_next_ranges_ii _ rfl _ rfl 3 3 .i64 .i64 law3 Try.underlying3 Try.underlying3 b ri (k + 1 + 1) _ _ _ rfl hrg ?_ ?_) | fail)
        · intro hc0 hl0
          have hbi : BI wr g N (fun j => ((dl (tn f) e j : Nat) : Int)) := Bk.congr HB0.out.1 (fun j _ => by dsimp only; rw [if_neg (by rw [hl0]; exact fun c => by cases c)])
          obtain ⟨z0, -, -⟩ := uno HB0.out.2.1
          have h5 : wr.heap[W.heap.size + 1 + 1]? = some (.cells #[.slice none 0 0] 28 (0, 0)) := (Below.block (H7.out.2.2.trans HB0.out.2.2) _ (by have := HZ2.out; omega)).trans HH.out.2.2
          obtain ⟨c0, f0, -⟩ := uno h5
          have g0 : (wr.setCell ⟨W.heap.size + 1 + 1, 0, none⟩ (.slice (some ⟨g, 0, none⟩) N N)).cell? ⟨W.heap.size + 1 + 1, 0, none⟩ = some (.slice (some ⟨g, 0, none⟩) N N) := World.cell?_setCell_same _ _ _ c0
          have hgW : W.heap.size + 1 + 1 < g := by have := HZ2.out; omega
          have hx5 : Ext W (wr.setCell ⟨W.heap.size + 1 + 1, 0, none⟩ (.slice (some ⟨g, 0, none⟩) N N)) := (HX2.out.trans (H7.out.2.2.trans HB0.out.2.2)).sc (by omega)
          have hb5 : BI (wr.setCell ⟨W.heap.size + 1 + 1, 0, none⟩ (.slice (some ⟨g, 0, none⟩) N N)) g N (fun j => ((dl (tn f) e j : Nat) : Int)) := Bk.far hbi (by show g ≠ W.heap.size + 1 + 1; omega) _
          have HF := Lib.hid (And.intro hb5 hx5)
          clear h5 hx5 hb5 hbi hc0 hl0 hrg
          go_wp2
          exact bodyPost_ret (v := .agg #[.slice (some ⟨g, 0, none⟩) N N]) (by simp [results, Try.results42, go_sem, g0]) rfl ⟨g, by rw [HNN.out], by omega, by rw [← HNN.out]; exact HF.out.1, HF.out.2⟩
        · intro x c1 xw cnt1 hwx hwc hlx hat hrg1 hlt1 hg1 hs1 hen
          obtain ⟨d, hdk, hpd, hxd⟩ := (H7.out.2.1.has _).1 (HLF.out.1 _ hlx)
          have hxd' : x = (d : Int) := by unfold kl at hxd; injection hxd
          subst hxd'
          have hcs : c1 = ((dk (tn f) e d : Nat) : Int) := by
            have h1 := hat (vl 0)
            have h2 := H7.out.2.1.at_ d hdk hpd (vl 0)
            rw [show Lit.int .i64 (d : Int) = kl d from rfl, h2] at h1
            unfold vl at h1; injection h1 with h1; injection h1 with _ h1; exact h1.symm
          obtain ⟨s, hs⟩ : ∃ s, s = dk (tn f) e d := ⟨_, rfl⟩
          rw [← hs] at hcs
          subst hcs
          have hda : d ≠ 2 * e ∧ d ≠ 2 * e + 1 := by
            simp only [Bool.and_eq_true, decide_eq_true_eq] at hpd
            have := HAA.out; have := HA1.out
            omega
          have hsk := (sk_steps (f := tn f) (fun x hx => HM.out.tn_lt hx) (fun x y hx hy e => HM.out.inj x y hx hy (by rw [← HM.out.tn_eq hx, ← HM.out.tn_eq hy, e])) he hdk hda.1 hda.2).1
          rw [← hs] at hsk
          obtain ⟨nd, hnd⟩ : ∃ x, x = nu e d := ⟨_, rfl⟩
          obtain ⟨ns, hns⟩ : ∃ x, x = nu e s := ⟨_, rfl⟩
          have hndN : nd < N := by rw [hnd, HNN.out]; exact nu_lt he hdk hda.1 hda.2
          have hnsk : ns ≤ 1000 := by have := nu_lt he hsk.1 hsk.2.1 hsk.2.2; omega
          have e1 : Ext w7 xw := ext_grow (base := w7.heap.size) HB0.out.2.2 hg1 (fun _ h => by injection h with h; have := HRI.out; have := HGZ.out; omega) (Nat.le_refl _)
          have hgr : g ≠ ri := by have := HRI.out; have := HGZ.out; omega
          have hzr : z ≠ ri := by have := HRI.out; have := HGZ.out; omega
          have hzc : xw.heap[z]? = some (.cells #[.slice (some ⟨g, 0, none⟩) N N] 28 (0, 0)) := (hg1.block z (uno HB0.out.2.1).2.2 (fun c => hzr (by injection c))).trans HB0.out.2.1
          have hbi : BI xw g N (fun j => if left (kl (un e j)) = true then 0 else ((dl (tn f) e j : Nat) : Int)) := (hg1.block g (Bk.lt HB0.out.1) (fun c => hgr (by injection c))).trans HB0.out.1
          have hc3 := keepAt (H7.out.2.2.trans e1) mz1 HH.out.2.1
          have HC : Hid (z < xw.heap.size ∧ xw.cell? ⟨z, 0, none⟩ = some (.slice (some ⟨g, 0, none⟩) N N) ∧ (∀ X, Ext xw X → Calls Try.prog 51 #[.int .i64 d, .pointer (some ⟨W.heap.size + 1, 0, none⟩)] X fun r W' => r = .returned (.int .i64 (nd : Nat)) ∧ X = W') ∧
              (∀ X, Ext xw X → Calls Try.prog 51 #[.int .i64 s, .pointer (some ⟨W.heap.size + 1, 0, none⟩)] X fun r W' => r = .returned (.int .i64 (ns : Nat)) ∧ X = W')) := Lib.hid ⟨(uno hzc).2.2, (uno hzc).1,
            fun X hX => by rw [hnd]; exact number_any e d _ X (keepAt hX (Nat.lt_of_lt_of_le mz1 (H7.out.2.2.trans e1).size) hc3) (by omega) (by omega) hda.2,
            fun X hX => by rw [hns]; exact number_any e s _ X (keepAt hX (Nat.lt_of_lt_of_le mz1 (H7.out.2.2.trans e1).size) hc3) (by omega) (by omega) hsk.2.2⟩
          have HBI := Lib.hid (And.intro hbi (And.intro hzc (uno hzc).2.2))
          have HXW := Lib.hid e1
          have HRG := Lib.hid (And.intro hrg1 hlt1)
          have HND := Lib.hid (And.intro hndN (And.intro (show z ≠ g by have := HGZ.out; omega) (And.intro (show w7.heap.size ≤ g by have := HGZ.out; omega) (And.intro (show b ≠ g by omega) (fun c : ri = g => hgr c.symm)))))
          have HNS := Lib.hid (And.intro hnd (And.intro hs (And.intro hda.1 (And.intro hda.2 hns))))
          have hd80 : d ≤ 80 := by omega
          have hs80 : s ≤ 80 := by omega
          clear hbi hzc e1 hrg1 hg1 hs1 hgr hzr hnd hns hs hat hxd hpd hlx hda hsk hc3 hrg hwx hwc hndN
          go_upto_region 14 with fail
          clear hen
          refine wp_region_noPanic ?_
          refine wp_pool 8 [some 45, some 46, some 47, some 48, some 49, some 50, some 51, some 52] [] [] [(fun (v : Value) (_ : World) => v = .pointer (some ⟨z, 0, none⟩)), (fun (v : Value) (_ : World) => v = .slice (some ⟨g, 0, none⟩) N N), (fun (v : Value) (_ : World) => v = .func (.func 51) #[] #[.pointer (some ⟨W.heap.size + 1, 0, none⟩)]), (fun (v : Value) (_ : World) => v = .int .i64 d), (fun (v : Value) (_ : World) => v = .int .i64 nd), (fun (v : Value) (_ : World) => v = .func (.func 51) #[] #[.pointer (some ⟨W.heap.size + 1, 0, none⟩)]), (fun (v : Value) (_ : World) => v = .int .i64 s), (fun (v : Value) (_ : World) => v = .int .i64 ns)] [noF, noF, noF, noF, noF, noF, noF, noF] (by kernel_rfl) (by kernel_rfl) (by kernel_rfl) (by kernel_rfl) (by kernel_rfl) (by kernel_rfl) (by kernel_rfl) (by kernel_rfl) (fun _ _ _ _ h => h) ⟨Stays.pure _, Stays.pure _, Stays.pure _, Stays.pure _, Stays.pure _, Stays.pure _, Stays.pure _, Stays.pure _, True.intro⟩ ?steps ?done
          case steps =>
            simp only [List.take_succ_cons, List.take_zero]
            refine Steps.cons (fun (v : Value) (_ : World) => v = .pointer (some ⟨z, 0, none⟩)) [] rfl (by kernel_rfl) rfl (by kernel_rfl) (fun y X ex0 hf K hK => ?_) ?_
            · clear hf
              have ex := (Ext.drw (Ext.refl _)).trans ex0
              refine Box.mk ?_
              simp only [fill, Act.put, Nat.reduceAdd, List.setIfInBounds_toArray, List.set_cons_zero, List.set_cons_succ] at hK ⊢
              go_simp
              exact hK.out _ _ rfl (Ext.refl _) (fun b hb => by cases hb)
            refine Steps.cons (fun (v : Value) (_ : World) => v = .slice (some ⟨g, 0, none⟩) N N) [0] rfl (by kernel_rfl) rfl (by kernel_rfl) (fun y X ex0 hf K hK => ?_) ?_
            · have h0 : ((fun (v : Value) (_ : World) => v = .pointer (some ⟨z, 0, none⟩))) (y 0) X := hf.1
              clear hf
              have ex := (Ext.drw (Ext.refl _)).trans ex0
              refine Box.mk ?_
              simp only [fill, Act.put, Nat.reduceAdd, List.setIfInBounds_toArray, List.set_cons_zero, List.set_cons_succ, h0] at hK ⊢
              have q1 := keepAt ex HC.out.1 HC.out.2.1
              go_simp
              exact hK.out _ _ rfl (Ext.refl _) (fun b hb => by cases hb)
            refine Steps.cons (fun (v : Value) (_ : World) => v = .func (.func 51) #[] #[.pointer (some ⟨W.heap.size + 1, 0, none⟩)]) [] rfl (by kernel_rfl) rfl (by kernel_rfl) (fun y X ex0 hf K hK => ?_) ?_
            · clear hf
              have ex := (Ext.drw (Ext.refl _)).trans ex0
              refine Box.mk ?_
              simp only [fill, Act.put, Nat.reduceAdd, List.setIfInBounds_toArray, List.set_cons_zero, List.set_cons_succ] at hK ⊢
              go_simp
              exact hK.out _ _ rfl (Ext.refl _) (fun b hb => by cases hb)
            refine Steps.cons (fun (v : Value) (_ : World) => v = .int .i64 d) [] rfl (by kernel_rfl) rfl (by kernel_rfl) (fun y X ex0 hf K hK => ?_) ?_
            · clear hf
              have ex := (Ext.drw (Ext.refl _)).trans ex0
              refine Box.mk ?_
              simp only [fill, Act.put, Nat.reduceAdd, List.setIfInBounds_toArray, List.set_cons_zero, List.set_cons_succ] at hK ⊢
              go_simp
              exact hK.out _ _ rfl (Ext.refl _) (fun b hb => by cases hb)
            refine Steps.cons (fun (v : Value) (_ : World) => v = .int .i64 nd) [2, 3] rfl (by kernel_rfl) rfl (by kernel_rfl) (fun y X ex0 hf K hK => ?_) ?_
            · have h2 : ((fun (v : Value) (_ : World) => v = .func (.func 51) #[] #[.pointer (some ⟨W.heap.size + 1, 0, none⟩)])) (y 2) X := hf.1
              have h3 : ((fun (v : Value) (_ : World) => v = .int .i64 d)) (y 3) X := hf.2.1
              clear hf
              have ex := (Ext.drw (Ext.refl _)).trans ex0
              refine Box.mk ?_
              simp only [fill, Act.put, Nat.reduceAdd, List.setIfInBounds_toArray, List.set_cons_zero, List.set_cons_succ, h2, h3] at hK ⊢
              go_simp
              refine (HC.out.2.2.1 _ ex).mono ?_
              rintro e V ⟨rfl, rfl⟩
              try go_wp2_with fail
              exact hK.out _ _ rfl (Ext.refl _) (fun b hb => by cases hb)
            refine Steps.cons (fun (v : Value) (_ : World) => v = .func (.func 51) #[] #[.pointer (some ⟨W.heap.size + 1, 0, none⟩)]) [] rfl (by kernel_rfl) rfl (by kernel_rfl) (fun y X ex0 hf K hK => ?_) ?_
            · clear hf
              have ex := (Ext.drw (Ext.refl _)).trans ex0
              refine Box.mk ?_
              simp only [fill, Act.put, Nat.reduceAdd, List.setIfInBounds_toArray, List.set_cons_zero, List.set_cons_succ] at hK ⊢
              go_simp
              exact hK.out _ _ rfl (Ext.refl _) (fun b hb => by cases hb)
            refine Steps.cons (fun (v : Value) (_ : World) => v = .int .i64 s) [] rfl (by kernel_rfl) rfl (by kernel_rfl) (fun y X ex0 hf K hK => ?_) ?_
            · clear hf
              have ex := (Ext.drw (Ext.refl _)).trans ex0
              refine Box.mk ?_
              simp only [fill, Act.put, Nat.reduceAdd, List.setIfInBounds_toArray, List.set_cons_zero, List.set_cons_succ] at hK ⊢
              go_simp
              exact hK.out _ _ rfl (Ext.refl _) (fun b hb => by cases hb)
            refine Steps.cons (fun (v : Value) (_ : World) => v = .int .i64 ns) [5, 6, 4] rfl (by kernel_rfl) rfl (by kernel_rfl) (fun y X ex0 hf K hK => ?_) ?_
            · have h5 : ((fun (v : Value) (_ : World) => v = .func (.func 51) #[] #[.pointer (some ⟨W.heap.size + 1, 0, none⟩)])) (y 5) X := hf.1
              have h6 : ((fun (v : Value) (_ : World) => v = .int .i64 s)) (y 6) X := hf.2.1
              have h4 : ((fun (v : Value) (_ : World) => v = .int .i64 nd)) (y 4) X := hf.2.2.1
              clear hf
              have ex := (Ext.drw (Ext.refl _)).trans ex0
              refine Box.mk ?_
              simp only [fill, Act.put, Nat.reduceAdd, List.setIfInBounds_toArray, List.set_cons_zero, List.set_cons_succ, h5, h6, h4] at hK ⊢
              go_simp
              refine (HC.out.2.2.2 _ ex).mono ?_
              rintro e V ⟨rfl, rfl⟩
              try go_wp2_with fail
              exact hK.out _ _ rfl (Ext.refl _) (fun b hb => by cases hb)
            exact Steps.nil
          case done =>
            intro y X ex hf hlt hsep
            have h0 : ((fun (v : Value) (_ : World) => v = .pointer (some ⟨z, 0, none⟩))) (y 0) X := hf.1
            have h1 : ((fun (v : Value) (_ : World) => v = .slice (some ⟨g, 0, none⟩) N N)) (y 1) X := hf.2.1
            have h2 : ((fun (v : Value) (_ : World) => v = .func (.func 51) #[] #[.pointer (some ⟨W.heap.size + 1, 0, none⟩)])) (y 2) X := hf.2.2.1
            have h3 : ((fun (v : Value) (_ : World) => v = .int .i64 d)) (y 3) X := hf.2.2.2.1
            have h4 : ((fun (v : Value) (_ : World) => v = .int .i64 nd)) (y 4) X := hf.2.2.2.2.1
            have h5 : ((fun (v : Value) (_ : World) => v = .func (.func 51) #[] #[.pointer (some ⟨W.heap.size + 1, 0, none⟩)])) (y 5) X := hf.2.2.2.2.2.1
            have h6 : ((fun (v : Value) (_ : World) => v = .int .i64 s)) (y 6) X := hf.2.2.2.2.2.2.1
            have h7 : ((fun (v : Value) (_ : World) => v = .int .i64 ns)) (y 7) X := hf.2.2.2.2.2.2.2.1
            clear hf
            clear hsep hlt
            refine Box.mk ?_
            simp only [List.drop_succ_cons, List.drop_zero, fill, Act.put, Nat.reduceAdd, List.setIfInBounds_toArray, List.set_cons_zero, List.set_cons_succ, h0, h1, h2, h3, h4, h5, h6, h7]
            clear h0 h1 h2 h3 h4 h5 h6 h7
            have bi := HBI.out.1.ext ex
            have zc := (Below.block ex z HBI.out.2.2).trans HBI.out.2.1
            have EX := Lib.hid ex
            clear ex
            have cg := Bk.cell bi HND.out.1
            have fg := Bk.free bi nd
            have bi2 := BI.set_ bi nd (ns : Nat)
            have zc2 := (Below.heap_setCell X ⟨g, nd, none⟩ (.int .i64 (ns : Nat)) z HND.out.2.1).trans zc
            have hxx : Ext w7 (X.setCell ⟨g, nd, none⟩ (.int .i64 (ns : Nat))) := (HXW.out.trans EX.out).sc HND.out.2.2.1
            have hrx : (X.setCell ⟨g, nd, none⟩ (.int .i64 (ns : Nat))).ranges Try.prog 3 (plainElem Try.prog 3) b ri (k + 1 + 1) D (fun q => left q && !q.sameKey (kl d)) cnt1 :=
              (HRG.out.1.kept (ext_grown EX.out) (by simp) (by simp)).kept (grown_set X g nd _) (fun e => HND.out.2.2.2.1 (by injection e)) (fun e => HND.out.2.2.2.2 (by injection e))
            have HF := Lib.hid (And.intro hrx (And.intro bi2 (And.intro zc2 hxx)))
            have HCG := Lib.hid (And.intro cg fg)
            clear bi zc bi2 zc2 hxx hrx cg fg
            have cg := HCG.out.1
            have fg := HCG.out.2
            have hndN := HND.out.1
            go_wp2_with fail
            refine NoPanic.normal ?_
            clear cg fg hndN
            go_wp2
            go_roundw
            case rel =>
              refine ⟨_, cnt1, HF.out.1, fun q hq => HLF.out.1 q (by simp at hq; exact hq.1), Bk.congr HF.out.2.1 (fun j hj => ?_), HF.out.2.2.1, HF.out.2.2.2⟩
              congr 1
              by_cases e1 : j = nd
              · subst e1
                have hu : un e j = d := by rw [HNS.out.1]; exact un_nu HNS.out.2.2.1 HNS.out.2.2.2.1
                rw [up_self]; dsimp only; rw [hu, if_neg (by simp [WideAt.sameKey_self (kl_lit d)])]
                unfold dl; rw [hu, HNS.out.2.2.2.2, HNS.out.2.1]
              · rw [up_ne _ _ e1]; dsimp only
                have hne : un e j ≠ d := fun c => e1 (by rw [HNS.out.1, ← c, nu_un])
                have hsk : (kl (un e j)).sameKey (kl d) = false := Maps.sameKey_ne (fun c => hne (kl_inj c))
                rw [hsk]; simp
            case measure => rw [HF.out.1.left_eq, HLF.out.2.left_eq]; exact hlt1

end Go.Proofs.Ytijhbmdbnnmogaa.G
