/- Walks: ones, ties. · Walks: balances. · The square that is counted: its names, its matrix, its determinant. -/
import Derived.Test.YtijhbmdbnnmogaaGreatM28
import Derived.Test.YtijhbmdbnnmogaaGreatM26
import Derived.Test.YtijhbmdbnnmogaaGreatM3
namespace Go.Proofs.YtijhbmdbnnmogaaGreat.G
open Go.RowKit

/-- the grid of N rows at block b: row i lies at block b + 1 + i -/
structure Gd (W : World) (b N : Nat) (y : Nat → Nat → Int) : Prop where
  top : Bk W b 22 N (fun i => .slice (some ⟨b + 1 + i, 0, none⟩) N N)
  row : ∀ i, i < N → BI W (b + 1 + i) N (y i)
section
variable {w w' : World} {b N : Nat} {y : Nat → Nat → Int}
theorem Gd.ext (h : Gd w b N y) (e : Ext w w') : Gd w' b N y := ⟨h.top.ext e, fun i hi => (h.row i hi).ext e⟩
theorem Gd.congr {z : Nat → Nat → Int} (h : Gd w b N y) (e : ∀ i j, i < N → j < N → y i j = z i j) : Gd w b N z :=
  ⟨h.top, fun i hi => Bk.congr (h.row i hi) fun j hj => by rw [e i j hi hj]⟩
theorem Gd.cellT (h : Gd w b N y) {i : Nat} (hi : i < N) : w.cell? ⟨b, i, none⟩ = some (.slice (some ⟨b + 1 + i, 0, none⟩) N N) := Bk.cell h.top hi
theorem Gd.cell (h : Gd w b N y) {i j : Nat} (hi : i < N) (hj : j < N) : w.cell? ⟨b + 1 + i, j, none⟩ = some (.int .i64 (y i j)) := Bk.cell (h.row i hi) hj
theorem Gd.lt (h : Gd w b N y) {i : Nat} (hi : i < N) : b + 1 + i < w.heap.size := Bk.lt (h.row i hi)
theorem Gd.set_ (h : Gd w b N y) (i j : Nat) (v : Int) : Gd (w.setCell ⟨b + 1 + i, j, none⟩ (.int .i64 v)) b N (fun p q => if p = i ∧ q = j then v else y p q) := by
  refine ⟨Bk.far h.top (by show b ≠ b + 1 + i; omega) _, fun p hp => ?_⟩
  by_cases e : p = i
  · subst e
    refine Bk.congr (BI.set_ (h.row p hp) j v) fun q _ => ?_
    by_cases e2 : q = j
    · subst e2; simp only [up_self, and_self, if_true]
    · simp only [up_ne _ _ e2, and_false, e2, if_false]
  · refine Bk.congr (Bk.far (h.row p hp) (by show b + 1 + p ≠ b + 1 + i; omega) _) fun q _ => ?_
    simp only [e, false_and, if_false]
theorem Gd.far (h : Gd w b N y) {p : Addr} (hp : p.block < b) (v : Value) : Gd (w.setCell p v) b N y :=
  ⟨Bk.far h.top (by omega) _, fun i hi => Bk.far (h.row i hi) (by omega) _⟩
end

set_option maxHeartbeats 4000000 in
set_option maxRecDepth 100000 in
theorem ones_any (V : Int) (n : Nat) (s : Nat → Int) (SV : Value) (W : World) (hS : Il W SV n s) (hn : n ≤ 1000) :
    Calls Tryz.prog 55 #[.agg #[.int .i64 V, SV]] W fun e W' => ∃ g, e = .returned (.slice (some ⟨g, 0, none⟩) (n / 2) (n / 2)) ∧ W.heap.size ≤ g ∧ BI W' g (n / 2) (fun _ => 1) ∧ Ext W W' := by
  have HS := Lib.hid hS
  obtain ⟨A, c, rfl, hac, hcm, -⟩ := hS
  obtain ⟨q, hq⟩ : ∃ q, q = n / 2 := ⟨_, rfl⟩
  rw [← hq]
  have hq2 : q ≤ 1000 := by omega
  have HQ := Lib.hid hq
  clear hq
  go_enter Tryz.func55, Tryz.ntmps55
  go_upto_region 1 with fail
  have bb := al1 W (.cells #[.int .i64 V, .slice A n c] 72)
  have hh := heap_alloc_new W (.cells #[.int .i64 V, .slice A n c] 72)
  have zz : W.heap.size < (W.alloc (.cells #[.int .i64 V, .slice A n c] 72)).heap.size := by simp
  generalize W.alloc (.cells #[.int .i64 V, .slice A n c] 72) = W1 at *
  have HB : Hid (Ext W W1) := Lib.hid bb
  clear bb
  obtain ⟨m0, m1, -, -⟩ := two hh
  have h9 := heap_alloc_new W1 (.cells #[.int .i64 1] 3)
  have e9 : Ext W1 (W1.alloc (.cells #[.int .i64 1] 3)) := Ext.alc (Ext.refl _) _
  have m0' := keepAt e9 zz m0
  have m1' := keepAt e9 zz m1
  have H9 := Lib.hid (And.intro h9 e9)
  clear h9 e9 m0 m1 hh
  go_wp2_with fail
  refine (gedges_any V n s _ _ (HS.out.ext (HB.out.trans H9.out.2)) hn).mono ?_
  rintro e w2 ⟨rfl, hx⟩
  rw [← HQ.out]
  obtain ⟨u0, -, ul⟩ := uno H9.out.1
  have HX := Lib.hid (And.intro hx (keepAt hx ul u0))
  have hl2 : W1.heap.size < w2.heap.size := Nat.lt_of_lt_of_le ul hx.size
  clear hx u0 ul m0' m1'
  go_wp2_with fail
  refine (repeat_any W1.heap.size 0 1 q 1 _ HX.out.2 hl2 hq2).mono ?_
  rintro e w3 ⟨g, rfl, hg, hbi, hx⟩
  have hg2 : W.heap.size ≤ g := by omega
  have HF := Lib.hid (And.intro hbi (HB.out.trans (H9.out.2.trans (HX.out.1.trans hx))))
  clear hbi hx
  go_wp2
  go_ret
  exact ⟨g, rfl, hg2, HF.out.1, HF.out.2⟩

/-- the sum of the first k weights between i and j -/
def tk (s : Nat → Nat) (x : Nat → Int) : Nat → Nat → Nat → Int
  | 0, _, _ => 0
  | k + 1, i, j => tk s x k i j + if s (2 * k) ≠ s (2 * k + 1) ∧ ((i = s (2 * k) ∧ j = s (2 * k + 1)) ∨ (i = s (2 * k + 1) ∧ j = s (2 * k))) then x k else 0
theorem tk_bd {s : Nat → Nat} {x : Nat → Int} (i j : Nat) : ∀ k, (∀ e, e < k → 0 ≤ x e ∧ x e ≤ 1000) → 0 ≤ tk s x k i j ∧ tk s x k i j ≤ k * 1000
  | 0, _ => by simp [tk]
  | k + 1, h => by
    have h1 := tk_bd (s := s) i j k (fun e he => h e (by omega))
    have h2 := h k (by omega)
    unfold tk
    split <;> omega

set_option maxHeartbeats 4000000 in
set_option maxRecDepth 100000 in
theorem ties_any (V E : Nat) (s : Nat → Nat) (x : Nat → Int) (SV WV : Value) (W : World) (hS : Il W SV (2 * E) (fun d => ((s d : Nat) : Int))) (hE : E ≤ 100) (hV : V ≤ 100) (hsV : ∀ d, d < 2 * E → s d < V)
    (hW : Il W WV E x) (hx : ∀ e, e < E → 0 ≤ x e ∧ x e ≤ 1000) :
    Calls Tryz.prog 78 #[.agg #[.int .i64 V, SV], WV] W fun e W' => ∃ b, e = .returned (.slice (some ⟨b, 0, none⟩) V V) ∧ W.heap.size ≤ b ∧ Gd W' b V (tk s x E) ∧ Ext W W' := by
  have hm1 : ∀ w, (Instr.makeSlice 86 (.int .i64 (V : Int)) (.int .i64 (V : Int))).run Tryz.prog w = .ok (.slice (some ⟨w.heap.size, 0, none⟩) V V) (w.alloc (.cells (Array.ofFn fun _ : Fin V => .slice none 0 0) 22)) := fun w => make_one 86 22 _ 24 Tryz.underlying86 info22 rfl (by omega) V (by omega) w
  have hm2 : ∀ w, (Instr.makeSlice 22 (.int .i64 (V : Int)) (.int .i64 (V : Int))).run Tryz.prog w = .ok (.slice (some ⟨w.heap.size, 0, none⟩) V V) (w.alloc (.cells (Array.ofFn fun _ : Fin V => .int .i64 0) 3)) := fun w => make_one 22 3 _ 8 Tryz.underlying22 info3 rfl (by omega) V (by omega) w
  have HS := Lib.hid hS; have HW := Lib.hid hW; have HXX := Lib.hid hx; have HSV := Lib.hid hsV
  clear hx hsV
  obtain ⟨n, hn⟩ : ∃ n, n = 2 * E := ⟨_, rfl⟩
  have HNN := Lib.hid hn
  rw [← hn] at hS HS
  obtain ⟨A, c, rfl, hac, hcm, -⟩ := hS
  obtain ⟨A2, c2, rfl, hac2, hcm2, -⟩ := hW
  clear hn
  go_enter Tryz.func78, Tryz.ntmps78
  go_upto_region 1 with fail
  have bb := al1 W (.cells #[.int .i64 V, .slice A n c] 72)
  have hh := heap_alloc_new W (.cells #[.int .i64 V, .slice A n c] 72)
  have zz : W.heap.size < (W.alloc (.cells #[.int .i64 V, .slice A n c] 72)).heap.size := by simp
  generalize W.alloc (.cells #[.int .i64 V, .slice A n c] 72) = W1 at *
  have HX : Hid (Ext W W1) := Lib.hid bb
  obtain ⟨m0, m1, -, -⟩ := two hh
  have HM := Lib.hid (And.intro m0 m1)
  clear bb hh
  go_wp2_with fail
  obtain ⟨b, hb⟩ : ∃ b, b = W1.heap.size := ⟨_, rfl⟩
  have y1 : Bk (W1.alloc (.cells (Array.ofFn fun _ : Fin V => Value.slice none 0 0) 22)) b 22 V (fun _ => .slice none 0 0) := by rw [hb]; exact heap_alloc_new W1 _
  have e1 : Ext W1 (W1.alloc (.cells (Array.ofFn fun _ : Fin V => Value.slice none 0 0) 22)) := Ext.alc (Ext.refl _) _
  have z1 : (W1.alloc (.cells (Array.ofFn fun _ : Fin V => Value.slice none 0 0) 22)).heap.size = b + 1 := by rw [hb]; simp
  generalize W1.alloc (.cells (Array.ofFn fun _ : Fin V => Value.slice none 0 0) 22) = W2 at *
  rw [← hb]
  have HY := Lib.hid (And.intro y1 (And.intro z1 e1))
  have HBB := Lib.hid hb
  have hbW : W.heap.size < b := by omega
  clear y1 e1 z1 m0 m1 hb
  go_loopw [16] (fun i wr => ∃ k : Nat, i = .int .i64 k ∧ k ≤ V ∧ Hid (Bk wr b 22 V (fun v => if v < k then .slice (some ⟨b + 1 + v, 0, none⟩) V V else .slice none 0 0) ∧ wr.heap.size = b + 1 + k ∧ (∀ v, v < k → BI wr (b + 1 + v) V (fun _ => 0)) ∧ Ext W1 wr)) (fun i _ => V - (intOf i).toNat)
  case atStart => exact ⟨0, rfl, Nat.zero_le _, Lib.hid ⟨Bk.congr HY.out.1 (fun j _ => by simp), HY.out.2.1, fun v hv => by omega, HY.out.2.2⟩⟩
  case round =>
    obtain ⟨k, rfl, hk, hin⟩ := hrel
    have m0 := keepAt hin.out.2.2.2 zz HM.out.1
    have m1 := keepAt hin.out.2.2.2 zz HM.out.2
    by_cases hlt : k < V
    · have zs := hin.out.2.1
      have c6 := Bk.cell (Bk.alloc hin.out.1 (.cells (Array.ofFn fun _ : Fin V => Value.int .i64 0) 3)) hlt
      have f6 := Bk.free (Bk.alloc hin.out.1 (.cells (Array.ofFn fun _ : Fin V => Value.int .i64 0) 3)) k
      have y2 := Bk.set_ (Bk.alloc hin.out.1 (.cells (Array.ofFn fun _ : Fin V => Value.int .i64 0) 3)) k (.slice (some ⟨b + 1 + k, 0, none⟩) V V)
      have y3 : BI (wr.alloc (.cells (Array.ofFn fun _ : Fin V => Value.int .i64 0) 3)) (b + 1 + k) V (fun _ => 0) := by rw [← zs]; exact heap_alloc_new wr _
      have Y2 := Lib.hid y2; have Y3 := Lib.hid y3; have ZS := Lib.hid zs
      clear y2 y3
      go_wp2_with fail
      go_roundw
      case rel =>
        have zs := ZS.out
        refine ⟨k + 1, by go_num, by omega, Lib.hid ⟨?_, by simp [World.setCell]; omega, fun v hv => ?_, (hin.out.2.2.2.alc _).sc (by have := HBB.out; omega)⟩⟩
        · refine Bk.congr Y2.out fun j hj => ?_
          by_cases e : j = k
          · subst e; rw [up_self, if_pos (by omega)]
          · rw [up_ne _ _ e]
            by_cases e2 : j < k
            · rw [if_pos e2, if_pos (by omega)]
            · rw [if_neg e2, if_neg (by omega)]
        · by_cases e : v = k
          · subst e; exact Bk.far Y3.out (by show b + 1 + v ≠ b; omega) _
          · exact Bk.far (Bk.alloc (hin.out.2.2.1 v (by omega)) _) (by show b + 1 + v ≠ b; omega) _
      case measure => simp [intOf]; omega
    · obtain rfl : k = V := by omega
      have hgd : Gd wr b k (tk s x 0) := ⟨Bk.congr hin.out.1 (fun j hj => by rw [if_pos hj]), fun i hi => hin.out.2.2.1 i hi⟩
      have HG0 := Lib.hid (And.intro hgd hin.out.2.2.2)
      clear hgd hin HY
      go_wp2_with fail
      clear m0 m1
      go_loopw [28] (fun i wr => ∃ q : Nat, i = .int .i64 q ∧ q ≤ E ∧ Hid (Gd wr b k (tk s x q) ∧ Ext W1 wr)) (fun i _ => E - (intOf i).toNat)
      case atStart => exact ⟨0, rfl, Nat.zero_le _, HG0⟩
      case round =>
        clear HG0
        obtain ⟨q, rfl, hq, hin⟩ := hrel
        by_cases hlt2 : q < E
        · obtain ⟨b2, off, rfl, -, d1⟩ := Vl.at HW.out (HX.out.trans hin.out.2) hlt2
          have m0 := keepAt hin.out.2 zz HM.out.1
          have m1 := keepAt hin.out.2 zz HM.out.2
          obtain ⟨xq, hxq⟩ : ∃ z, z = x q := ⟨_, rfl⟩
          have hx0 := HXX.out q hlt2
          rw [← hxq] at d1 hx0
          have HQ := Lib.hid hxq
          clear hxq
          go_wp2_with fail
          refine (ends_any k n (fun d => ((s d : Nat) : Int)) q _ _ (HS.out.ext (HX.out.trans hin.out.2)) (by have := HNN.out; omega) (by have := HNN.out; omega)).mono ?_
          rintro e w3 ⟨rfl, hx⟩
          obtain ⟨u, hu⟩ : ∃ u, u = s (2 * q) := ⟨_, rfl⟩
          obtain ⟨v, hv⟩ : ∃ v, v = s (2 * q + 1) := ⟨_, rfl⟩
          dsimp only
          rw [← hu, ← hv]
          have huV : u < k := by rw [hu]; exact HSV.out _ (by omega)
          have hvV : v < k := by rw [hv]; exact HSV.out _ (by omega)
          have HU := Lib.hid (And.intro hu hv)
          have HG := Lib.hid (And.intro (hin.out.1.ext hx) (hin.out.2.trans hx))
          clear hu hv hx d1 m0 m1 hin
          by_cases huv : u = v
          · subst huv
            have hbe : ((u : Int) == (u : Int)) = true := by simp
            go_wp2
            go_roundw
            case rel =>
              refine ⟨q + 1, by go_num, by omega, Lib.hid ⟨Gd.congr HG.out.1 fun i j hi hj => ?_, HG.out.2⟩⟩
              rw [tk, ← HU.out.1, ← HU.out.2, if_neg (fun h => h.1 rfl), Int.add_zero]
            case measure => simp [intOf]; omega
          · have hbe : ((u : Int) == (v : Int)) = false := by simp; omega
            have c3 := Gd.cellT HG.out.1 huV
            have c4 := Gd.cell HG.out.1 huV hvV
            have f4 := Bk.free (HG.out.1.row u huV) v
            obtain ⟨z, hz⟩ : ∃ z, z = tk s x q u v := ⟨_, rfl⟩
            obtain ⟨y, hy⟩ : ∃ y, y = tk s x q v u := ⟨_, rfl⟩
            have hzb := tk_bd (s := s) u v q (fun e he => HXX.out e (by omega))
            have hyb := tk_bd (s := s) v u q (fun e he => HXX.out e (by omega))
            rw [← hz] at c4 hzb
            rw [← hy] at hyb
            have hz2 : 0 ≤ z ∧ z ≤ 2000000 := by omega
            have hy2 : 0 ≤ y ∧ y ≤ 2000000 := by omega
            have HZ := Lib.hid (And.intro hz hy)
            clear hz hy hzb hyb
            go_upto_region 13 with fail
            have G2 : Gd (w3.setCell ⟨b + 1 + u, v, none⟩ (.int .i64 (z + xq))) b k (fun p q' => if p = u ∧ q' = v then z + xq else tk s x q p q') := HG.out.1.set_ u v (z + xq)
            have X2 : Ext W1 (w3.setCell ⟨b + 1 + u, v, none⟩ (.int .i64 (z + xq))) := HG.out.2.sc (by have := HBB.out; omega)
            have HG2 := Lib.hid (And.intro G2 X2)
            clear c3 c4 f4 G2 X2 HG hbe
            generalize w3.setCell ⟨b + 1 + u, v, none⟩ (.int .i64 (z + xq)) = w4 at *
            have c3 := Gd.cellT HG2.out.1 hvV
            have c4 := Gd.cell HG2.out.1 hvV huV
            have f4 := Bk.free (HG2.out.1.row v hvV) u
            rw [if_neg (fun h => huv h.1.symm), ← HZ.out.2] at c4
            go_wp2
            go_roundw
            case rel =>
              refine ⟨q + 1, by go_num, by omega, Lib.hid ⟨Gd.congr (HG2.out.1.set_ v u (y + xq)) fun i j hi hj => ?_, HG2.out.2.sc (by have := HBB.out; omega)⟩⟩
              rw [tk, ← HU.out.1, ← HU.out.2]
              by_cases e1 : i = v ∧ j = u
              · obtain ⟨rfl, rfl⟩ := e1
                rw [if_pos ⟨rfl, rfl⟩, if_pos ⟨huv, .inr ⟨rfl, rfl⟩⟩, HZ.out.2, HQ.out]
              · rw [if_neg e1]
                by_cases e2 : i = u ∧ j = v
                · obtain ⟨rfl, rfl⟩ := e2
                  rw [if_pos ⟨rfl, rfl⟩, if_pos ⟨huv, .inl ⟨rfl, rfl⟩⟩, HZ.out.1, HQ.out]
                · rw [if_neg e2, if_neg (fun h => h.2.elim e2 e1), Int.add_zero]
            case measure => simp [intOf]; omega
        · obtain rfl : q = E := by omega
          go_wp2
          go_ret
          exact ⟨b, rfl, by omega, hin.out.1, HX.out.trans hin.out.2⟩
end Go.Proofs.YtijhbmdbnnmogaaGreat.G
namespace Go.Proofs.YtijhbmdbnnmogaaGreat.G
open Go.RowKit

/-- the sum of the first k -/
def sk (y : Nat → Int) : Nat → Int
  | 0 => 0
  | k + 1 => sk y k + y k
theorem sk_bd {y : Nat → Int} {M : Int} : ∀ k, (∀ e, e < k → 0 ≤ y e ∧ y e ≤ M) → 0 ≤ sk y k ∧ sk y k ≤ k * M
  | 0, _ => by simp [sk]
  | k + 1, h => by
    have h1 := sk_bd k (fun e he => h e (by omega))
    have h2 := h k (by omega)
    have h3 : ((k + 1 : Nat) : Int) * M = k * M + M := by rw [Int.natCast_add, Int.add_mul]; simp
    unfold sk
    rw [h3]
    omega
/-- Kirchhoff's matrix of the ties y -/
def bal (V : Nat) (y : Nat → Nat → Int) (i j : Nat) : Int := if i = j then sk (y i) V else -(y i j)
/-- on the way: rows below v are done, of row v the first u are turned -/
def bw (V : Nat) (y : Nat → Nat → Int) (v u i j : Nat) : Int := if i < v then bal V y i j else if i = v ∧ j < u then -(y i j) else y i j

set_option maxHeartbeats 4000000 in
set_option maxRecDepth 100000 in
theorem balances_any (V E : Nat) (s : Nat → Nat) (x : Nat → Int) (SV WV : Value) (W : World) (hS : Il W SV (2 * E) (fun d => ((s d : Nat) : Int))) (hE : E ≤ 100) (hV : V ≤ 100) (hsV : ∀ d, d < 2 * E → s d < V)
    (hW : Il W WV E x) (hx : ∀ e, e < E → 0 ≤ x e ∧ x e ≤ 1000) :
    Calls Tryz.prog 54 #[.agg #[.int .i64 V, SV], WV] W fun e W' => ∃ b, e = .returned (.slice (some ⟨b, 0, none⟩) V V) ∧ W.heap.size ≤ b ∧ Gd W' b V (bal V (tk s x E)) ∧ Ext W W' := by
  have HS := Lib.hid hS; have HW := Lib.hid hW; have HXX := Lib.hid hx; have HSV := Lib.hid hsV
  have hyb : ∀ i j, 0 ≤ tk s x E i j ∧ tk s x E i j ≤ 100000 := fun i j => by
    have := tk_bd (s := s) i j E hx
    omega
  obtain ⟨y, hy⟩ : ∃ y, y = tk s x E := ⟨_, rfl⟩
  rw [← hy] at hyb ⊢
  have HY := Lib.hid hy; have HYB := Lib.hid hyb
  clear hx hsV hy hyb
  obtain ⟨n, hn⟩ : ∃ n, n = 2 * E := ⟨_, rfl⟩
  have HNN := Lib.hid hn
  rw [← hn] at hS
  obtain ⟨A, c, rfl, hac, hcm, -⟩ := hS
  obtain ⟨A2, c2, rfl, hac2, hcm2, -⟩ := hW
  clear hn
  go_enter Tryz.func54, Tryz.ntmps54
  go_upto_region 1 with fail
  have bb := al1 W (.cells #[.int .i64 V, .slice A n c] 72)
  obtain ⟨m0, m1, -, -⟩ := two (heap_alloc_new W (.cells #[.int .i64 V, .slice A n c] 72))
  generalize W.alloc (.cells #[.int .i64 V, .slice A n c] 72) = W1 at *
  have HX : Hid (Ext W W1) := Lib.hid bb
  clear bb
  go_wp2_with fail
  refine (ties_any V E s x _ _ _ (HS.out.ext HX.out) hE hV HSV.out (HW.out.ext HX.out) HXX.out).mono ?_
  rintro e w2 ⟨b, rfl, hb, hgd, hx⟩
  rw [← HY.out] at hgd
  have hbW : W1.heap.size ≤ b := hb
  have hbW0 : W.heap.size ≤ b := by have := HX.out.size; omega
  have HG := Lib.hid (And.intro hgd hx)
  clear hgd hx m0 m1 hb
  go_wp2_with fail
  go_loopw [16] (fun i wr => ∃ v : Nat, i = .int .i64 v ∧ v ≤ V ∧ Hid (Gd wr b V (bw V y v 0) ∧ Ext W1 wr)) (fun i _ => V - (intOf i).toNat)
  case atStart => exact ⟨0, rfl, Nat.zero_le _, Lib.hid ⟨Gd.congr HG.out.1 fun i j _ _ => by unfold bw; rw [if_neg (by omega), if_neg (by omega)], HG.out.2⟩⟩
  case round =>
    clear HG
    obtain ⟨v, rfl, hv, hin⟩ := hrel
    by_cases hlt : v < V
    · have c3 := Gd.cellT hin.out.1 hlt
      go_upto_region 7 with fail
      clear c3
      go_loopw [8, 23] (fun t i wx => ∃ u : Nat, i = .int .i64 u ∧ u ≤ V ∧ t = .int .i64 (sk (y v) u) ∧ Hid (Gd wx b V (bw V y v u) ∧ Ext W1 wx)) (fun _ i _ => V - (intOf i).toNat)
      case atStart => exact ⟨0, rfl, Nat.zero_le _, rfl, Lib.hid hin.out⟩
      case round =>
        clear hin
        obtain ⟨u, rfl, hu, rfl, hin⟩ := hrel
        by_cases hlt2 : u < V
        · have c4 := Gd.cell hin.out.1 hlt hlt2
          have f4 := Bk.free (hin.out.1.row v hlt) u
          have hbb : bw V y v u v u = y v u := by unfold bw; rw [if_neg (by omega), if_neg (by omega)]
          rw [hbb] at c4
          obtain ⟨z, hz⟩ : ∃ z, z = y v u := ⟨_, rfl⟩
          have hzb := HYB.out v u
          rw [← hz] at c4 hzb
          obtain ⟨t, ht⟩ : ∃ t, t = sk (y v) u := ⟨_, rfl⟩
          have htb := sk_bd (y := y v) u (fun e _ => HYB.out v e)
          rw [← ht] at htb ⊢
          have ht2 : 0 ≤ t ∧ t ≤ 10000000 := by omega
          have HT := Lib.hid (And.intro ht hz)
          clear ht hz htb hbb
          go_wp2
          go_roundw
          case rel =>
            refine ⟨u + 1, by go_num, by omega, by rw [HT.out.1, HT.out.2]; rfl, Lib.hid ⟨Gd.congr (hin.out.1.set_ v u (-z)) fun i j hi hj => ?_, hin.out.2.sc (by omega)⟩⟩
            by_cases e1 : i = v ∧ j = u
            · obtain ⟨rfl, rfl⟩ := e1
              rw [if_pos ⟨rfl, rfl⟩, HT.out.2]; unfold bw; rw [if_neg (by omega), if_pos (by omega)]
            · rw [if_neg e1]
              unfold bw
              by_cases e2 : i < v
              · rw [if_pos e2, if_pos e2]
              · rw [if_neg e2, if_neg e2]
                by_cases e3 : i = v ∧ j < u
                · rw [if_pos e3, if_pos (by omega)]
                · rw [if_neg e3, if_neg (fun h => by obtain ⟨h1, h2⟩ := h; rcases Nat.lt_or_ge j u with h3 | h3; exact e3 ⟨h1, h3⟩; exact e1 ⟨h1, by omega⟩)]
          case measure => simp [intOf]; omega
        · obtain rfl : u = V := by omega
          have c4 := Gd.cell hin.out.1 hlt hlt
          have f4 := Bk.free (hin.out.1.row v hlt) v
          have c3 := Gd.cellT hin.out.1 hlt
          obtain ⟨t, ht⟩ : ∃ t, t = sk (y v) u := ⟨_, rfl⟩
          rw [← ht]
          have HT := Lib.hid ht
          clear ht
          go_wp2
          go_roundw
          case rel =>
            refine ⟨v + 1, by go_num, by omega, Lib.hid ⟨Gd.congr (hin.out.1.set_ v v t) fun i j hi hj => ?_, hin.out.2.sc (by omega)⟩⟩
            by_cases e1 : i = v ∧ j = v
            · obtain ⟨rfl, rfl⟩ := e1
              rw [if_pos ⟨rfl, rfl⟩, HT.out]; unfold bw bal; rw [if_pos (by omega), if_pos rfl]
            · rw [if_neg e1]
              unfold bw
              by_cases e2 : i < v
              · rw [if_pos e2, if_pos (by omega)]
              · rw [if_neg e2]
                by_cases e3 : i = v
                · subst e3
                  rw [if_pos ⟨rfl, hj⟩, if_pos (by omega)]
                  unfold bal
                  rw [if_neg (fun h => e1 ⟨rfl, h.symm⟩)]
                · rw [if_neg (fun h => e3 h.1), if_neg (by omega), if_neg (by omega)]
          case measure => simp [intOf]; omega
    · obtain rfl : v = V := by omega
      have hf : Gd wr b v (bal v y) := Gd.congr hin.out.1 fun i j hi hj => by unfold bw; rw [if_pos hi]
      have HF := Lib.hid (And.intro hf hin.out.2)
      clear hin hf
      go_wp2
      go_ret
      exact ⟨b, rfl, hbW0, HF.out.1, HX.out.trans HF.out.2⟩
end Go.Proofs.YtijhbmdbnnmogaaGreat.G
namespace Go.Proofs.YtijhbmdbnnmogaaGreat.G
open Go.RowKit

/-- the square -/
def sqf (d : Nat) : Int := if d = 0 then 4 else if d = 1 then 6 else if d = 2 then 5 else if d = 3 then 7 else if d = 4 then 0 else if d = 5 then 2 else if d = 6 then 1 else 3
/-- its vertices -/
def sqm (d : Nat) : Nat := if d = 0 then 0 else if d = 1 then 1 else if d = 2 then 2 else if d = 3 then 3 else if d = 4 then 0 else if d = 5 then 2 else if d = 6 then 1 else 3
theorem sq_map : vMap 8 sqf = true := by decide +kernel
theorem sq_nm : Nm 8 1 (fun _ => tn sqf) sqm := by
  have h1 : ∀ d, d < 8 → sqm d = d ∨ (sqm d < 8 ∧ tn sqf (sqm d) = d) := by decide +kernel
  have h2 : ∀ d, d < 8 → sqm (tn sqf d) = sqm d := by decide +kernel
  have h3 : ∀ d, d < 8 → sqm d ≤ d := by decide +kernel
  have h4 : ∀ d, d < 8 → tn sqf d < 8 := by decide +kernel
  intro d hd
  refine ⟨?_, fun l hl => ?_⟩
  · rcases h1 d hd with e | ⟨e1, e2⟩
    · rw [e]; exact .here hd
    · have := (Rch.here (k := 1) (st := fun _ => tn sqf) e1).step (i := 0) (by omega)
      rw [e2] at this; exact this
  · have key : sqm l = sqm d := by
      induction hl with
      | here _ => rfl
      | @step e i hr hi ih => exact (ih (hr.lt (fun _ _ => h4))).trans (h2 e (hr.lt (fun _ _ => h4))).symm
    rw [← key]; exact h3 l hl.src
theorem sq_pt : Nm 8 2 (pt sqf) (fun _ => 0) := by
  have go : ∀ a i b, i < 2 → pt sqf i a = b → Rch 8 2 (pt sqf) 0 a → Rch 8 2 (pt sqf) 0 b := fun a i b hi e h => by rw [← e]; exact h.step hi
  have r0 : Rch 8 2 (pt sqf) 0 0 := .here (by omega)
  have r4 := go 0 0 4 (by omega) (by decide +kernel) r0
  have r1 := go 0 1 1 (by omega) (by decide +kernel) r0
  have r6 := go 1 0 6 (by omega) (by decide +kernel) r1
  have r7 := go 6 1 7 (by omega) (by decide +kernel) r6
  have r3 := go 7 0 3 (by omega) (by decide +kernel) r7
  have r2 := go 3 1 2 (by omega) (by decide +kernel) r3
  have r5 := go 2 0 5 (by omega) (by decide +kernel) r2
  intro d hd
  refine ⟨?_, fun l _ => Nat.zero_le _⟩
  rcases (by omega : d = 0 ∨ d = 1 ∨ d = 2 ∨ d = 3 ∨ d = 4 ∨ d = 5 ∨ d = 6 ∨ d = 7) with rfl | rfl | rfl | rfl | rfl | rfl | rfl | rfl <;> assumption
theorem rank_congr {m m' : Nat → Nat} : ∀ r, (∀ j, j < r → m j = m' j) → rank m r = rank m' r
  | 0, _ => rfl
  | r + 1, h => by unfold rank; rw [rank_congr r (fun j hj => h j (by omega)), h r (by omega)]
theorem tk_congr {s s' : Nat → Nat} {x : Nat → Int} (i j : Nat) : ∀ k, (∀ d, d < 2 * k → s d = s' d) → tk s x k i j = tk s' x k i j
  | 0, _ => rfl
  | k + 1, h => by unfold tk; rw [tk_congr i j k (fun d hd => h d (by omega)), h (2 * k) (by omega), h (2 * k + 1) (by omega)]
/-- Kirchhoff's matrix of the vertices s without the first one -/
def km (V E : Nat) (s : Nat → Nat) (i j : Nat) : Int := bal V (tk s (fun _ => 1) E) (i + 1) (j + 1)
theorem km_congr {V E : Nat} {s s' : Nat → Nat} (h : ∀ d, d < 2 * E → s d = s' d) : km V E s = km V E s' := by
  have e : tk s (fun _ => 1) E = tk s' (fun _ => 1) E := by funext i j; exact tk_congr i j E h
  unfold km; rw [e]
theorem sq_parts {p : Nat → Nat} (h : Nm 8 2 (pt sqf) p) : rank p 8 = 1 := by
  rw [rank_congr 8 (fun j hj => h.only sq_pt hj)]; decide +kernel
theorem sq_rank {m : Nat → Nat} (h : Nm 8 1 (fun _ => tn sqf) m) : rank m 8 = 4 := by
  rw [rank_congr 8 (fun j hj => h.only sq_nm hj)]; decide +kernel
theorem sq_km {m : Nat → Nat} (h : Nm 8 1 (fun _ => tn sqf) m) : km 4 4 (fun d => rank m (m d)) = km 4 4 (fun d => rank sqm (sqm d)) := by
  refine km_congr fun d hd => ?_
  have h8 : ∀ d, d < 8 → sqm d < 8 := by decide +kernel
  show rank m (m d) = rank sqm (sqm d)
  rw [h.only sq_nm hd, rank_congr (sqm d) (fun j hj => h.only sq_nm (Nat.lt_trans hj (h8 d hd)))]
/-- the square's -/
def kq : Nat → Nat → Int := km 4 4 (fun d => rank sqm (sqm d))
theorem sq_bd : ∀ k, k < 3 → ∀ i, i < 3 → ∀ j, j < 3 → (bz kq k i j).natAbs ≤ 10 := by decide +kernel
theorem sq_ls : ∀ k, k < 3 → (lst (bz kq k) k).natAbs ≤ 10 ∧ lst (bz kq k) k ≠ 0 := by decide +kernel
theorem sq_det : lst (bz kq 3) 3 = (4 : Nat) := by decide +kernel
theorem Fz.small {z : Int} (h : z.natAbs ≤ 1000) : Fz z := by
  unfold Fz
  exact Nat.le_trans (dig_len_le (k := 1) (by omega)) (by omega)
theorem mul10 {a b : Int} (ha : a.natAbs ≤ 10) (hb : b.natAbs ≤ 10) : (a * b).natAbs ≤ 100 := by
  rw [Int.natAbs_mul]; exact Nat.mul_le_mul ha hb
theorem sq_fit : Fit kq 3 := by
  refine ⟨fun k i j hk hi hj => Fz.small (Nat.le_trans (sq_bd k hk i hi j hj) (by omega)), fun k i j h1 h2 hi hj => ?_, fun k i j h1 h2 hi hj => ?_, fun k i j h1 h2 hi hj => ?_, fun k hk => ⟨Fz.small (Nat.le_trans (sq_ls k hk).1 (by omega)), (sq_ls k hk).2⟩⟩
  · exact Fz.small (Nat.le_trans (mul10 (sq_bd k (by omega) i hi j hj) (sq_bd k (by omega) k (by omega) k (by omega))) (by omega))
  · exact Fz.small (Nat.le_trans (mul10 (sq_bd k (by omega) k (by omega) j hj) (sq_bd k (by omega) i hi k (by omega))) (by omega))
  · have a := mul10 (sq_bd k (by omega) i hi j hj) (sq_bd k (by omega) k (by omega) k (by omega))
    have b := mul10 (sq_bd k (by omega) k (by omega) j hj) (sq_bd k (by omega) i hi k (by omega))
    exact Fz.small (by omega)
end Go.Proofs.YtijhbmdbnnmogaaGreat.G
