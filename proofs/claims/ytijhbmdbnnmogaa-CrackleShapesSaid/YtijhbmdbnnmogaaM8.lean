/- Walks: the reference's Vertex and Part. · Walks: the reference's Part. · Walks: Vertex, Face, Part. · Walks: the reference's names, Dual. -/
import Derived.Test.YtijhbmdbnnmogaaM7
import Derived.Test.YtijhbmdbnnmogaaM3
namespace Go.Proofs.Ytijhbmdbnnmogaa.G
open Go.RowKit

set_option maxRecDepth 100000 in
theorem info59 : (Try.prog.info? 59).map (fun i => (i.zero, i.size, i.bytes)) = some (some (.agg #[.int .i64 0, .int .i64 0]), 2, 16) := by kernel_rfl
/-- the first k pairs as values -/
def pls (p q : Nat → Nat) (k : Nat) : List Value := (List.range k).flatMap fun j => [Value.int .i64 ((p j : Nat) : Int), Value.int .i64 ((q j : Nat) : Int)]
theorem pls_succ (p q : Nat → Nat) (k : Nat) : pls p q (k + 1) = pls p q k ++ [.int .i64 ((p k : Nat) : Int), .int .i64 ((q k : Nat) : Int)] := by unfold pls; rw [List.range_succ, List.flatMap_append]; simp
theorem pls_len (p q : Nat → Nat) : ∀ k, (pls p q k).length = k * 2
  | 0 => rfl
  | k + 1 => by rw [pls_succ, List.length_append, pls_len p q k]; simp; omega
theorem pls_get (p q : Nat → Nat) {j : Nat} : ∀ k, j < k → (pls p q k)[j * 2]? = some (.int .i64 ((p j : Nat) : Int)) ∧ (pls p q k)[j * 2 + 1]? = some (.int .i64 ((q j : Nat) : Int))
  | 0, h => by omega
  | k + 1, h => by
    have hl := pls_len p q k
    rw [pls_succ]
    by_cases e : j = k
    · subst e
      exact ⟨by rw [List.getElem?_append_right (by omega), show j * 2 - (pls p q j).length = 0 by omega]; rfl, by rw [List.getElem?_append_right (by omega), show j * 2 + 1 - (pls p q j).length = 1 by omega]; rfl⟩
    · have := pls_get p q (j := j) k (by omega)
      exact ⟨by rw [List.getElem?_append_left (by omega)]; exact this.1, by rw [List.getElem?_append_left (by omega)]; exact this.2⟩
theorem pr_own {w : World} {base k : Nat} {v : Value} {p q : Nat → Nat} (h : w.ownsRow base 59 2 v k (pls p q k)) : Pr w v k p q := by
  obtain ⟨h1, ⟨rfl, h2⟩ | ⟨g, cap, cur, rfl, hb, hh, h5, h6, h7, h8⟩⟩ := h
  · subst h2; exact ⟨none, 0, rfl, Nat.le_refl _, by omega, fun h => by omega⟩
  · refine ⟨_, cap, rfl, by omega, by simp only [maxLen] at *; omega, fun hp => ⟨g, 0, rfl, (Array.getElem?_eq_some_iff.1 hh).1, fun j hj => ?_⟩⟩
    have h9 := pls_get p q k hj
    rw [← h8, List.getElem?_take, if_pos (by omega), List.getElem?_take, if_pos (by omega)] at h9
    rw [Nat.zero_add, cell_of_row w g _ cur 59 (0, 0) hh, cell_of_row w g _ cur 59 (0, 0) hh]
    simpa using h9
theorem pls_congr {p q p' q' : Nat → Nat} : ∀ k, (∀ j, j < k → p j = p' j ∧ q j = q' j) → pls p q k = pls p' q' k
  | 0, _ => rfl
  | k + 1, h => by rw [pls_succ, pls_succ, pls_congr k (fun j hj => h j (by omega)), (h k (by omega)).1, (h k (by omega)).2]
theorem nw2 (w : World) (x y : Value) (t : TypeId) : ∀ j u, [x, y][j]? = some u → (w.alloc (.cells #[x, y] t)).cell? ((⟨w.heap.size, 0, none⟩ : Addr).add j) = some u := by
  intro j u hj
  match j, hj with
  | 0, hj => simp at hj; subst hj; simp [Addr.add]
  | 1, hj => simp at hj; subst hj; simp [Addr.add]
  | j + 2, hj => simp at hj
theorem nw4 (w : World) (x y x' y' : Value) (t : TypeId) : ∀ j u, [x, y, x', y'][j]? = some u → (w.alloc (.cells #[x, y, x', y'] t)).cell? ((⟨w.heap.size, 0, none⟩ : Addr).add j) = some u := by
  intro j u hj
  match j, hj with
  | 0, hj => simp at hj; subst hj; simp [Addr.add]
  | 1, hj => simp at hj; subst hj; simp [Addr.add]
  | 2, hj => simp at hj; subst hj; simp [Addr.add]
  | 3, hj => simp at hj; subst hj; simp [Addr.add]
  | j + 4, hj => simp at hj

set_option maxHeartbeats 4000000 in
set_option maxRecDepth 100000 in
theorem vertexR_any (n : Nat) (f : Nat → Int) (NV : Value) (W : World) (hN : Il W NV n f) (hM : Mp n f) (m : Nat → Nat) (hm : Nm n 1 (fun _ => tn f) m) :
    Calls Try.prog 17 #[.agg #[NV]] W fun e W' => ∃ g, e = .returned (.slice (some ⟨g, 0, none⟩) n n) ∧ BI W' g n (fun d => ((m d : Nat) : Int)) ∧ Ext W W' := by
  have HN := Lib.hid hN; have HMM := Lib.hid (And.intro hM hm)
  have hn80 : n ≤ 80 := hM.le
  obtain ⟨A, c, rfl, hac, hcm, -⟩ := hN
  clear hM hm
  obtain ⟨i0, hi, hz0, hz1, hz2⟩ := info_parts info59
  have HI := Lib.hid (And.intro hi (And.intro hz0 (And.intro hz1 hz2)))
  clear hi hz0 hz1 hz2
  go_enter Try.func17, Try.ntmps17
  go_upto_region 1 with fail
  have bb := al1 W (.cells #[.slice A n c] 24)
  obtain ⟨m0, -, mz⟩ := uno (heap_alloc_new W (.cells #[.slice A n c] 24))
  generalize W.alloc (.cells #[.slice A n c] 24) = W1 at *
  have HB : Hid (Ext W W1) := Lib.hid bb
  have HM0 := Lib.hid m0
  clear bb
  go_wp2_with fail
  clear m0
  go_loopw [3, 9] (fun q i wr => ∃ k : Nat, i = .int .i64 k ∧ k ≤ n ∧ Hid (wr.ownsRow W1.heap.size 59 2 q k (pls (fun j => j) (tn f) k) ∧ Ext W1 wr)) (fun _ i _ => n - (intOf i).toNat)
  case atStart => exact ⟨0, rfl, Nat.zero_le _, Lib.hid ⟨World.ownsRow_nil _ _ _ _, Ext.refl _⟩⟩
  case round =>
    obtain ⟨k, rfl, hk, hin⟩ := hrel
    obtain ⟨Av, cv, rfl⟩ := shape_own hin.out.1
    obtain ⟨wo, rfl⟩ : ∃ w, w = wr := ⟨_, rfl⟩
    by_cases hlt : k < n
    · obtain ⟨b1, o1, rfl, -, e1⟩ := Vl.at HN.out (HB.out.trans hin.out.2) hlt
      obtain ⟨z, hz⟩ : ∃ z, z = tn f k := ⟨_, rfl⟩
      rw [← HMM.out.1.tn_eq hlt, ← hz] at e1
      have HZ := Lib.hid hz
      clear hz
      have hown := World.ownsRow.ext hin.out.1 (Ext.alc (Ext.refl wo) (.cells #[.int .i64 (k : Nat), .int .i64 (z : Nat)] 59))
      go_wp2_with (at_builtin; refine wpList_append_own _ rfl _ _ 58 rfl W1.heap.size 59 i0 (.agg #[.int .i64 0, .int .i64 0]) 2 16 Try.underlying58 HI.out.1 HI.out.2.1 HI.out.2.2.1 HI.out.2.2.2 rfl (by decide) _ k _ rfl hown ⟨wo.heap.size, 0, none⟩ 1 1 [.int .i64 (k : Nat), .int .i64 (z : Nat)] rfl rfl (nw2 _ _ _ _) ?c2 ?c3 ?c4 ?c5 ?_)
      case c2 => intro uu hu; simp at hu; rcases hu with rfl | rfl <;> rfl
      case c3 => unfold maxLen; omega
      case c4 => omega
      case c5 => have := hin.out.2.size; first | omega | (simp; done) | (simp; omega)
      intro v' w3 hown' hgrow _hnil
      clear _hnil
      have hex : Ext W1 w3 := ext_grow (hin.out.2.alc _) hgrow (fun b' hb' => (World.ownsRow.lt hown b' hb').1) (Nat.le_refl _)
      have HNX : Hid (w3.ownsRow W1.heap.size 59 2 v' (k + 1) (pls (fun j => j) (tn f) (k + 1)) ∧ Ext W1 w3) := Lib.hid ⟨by rw [pls_succ, ← HZ.out]; exact hown', hex⟩
      clear hown' hex hgrow hown e1
      go_wp2
      go_roundw
      case rel => exact ⟨k + 1, by go_num, by omega, HNX⟩
      case measure => simp [intOf]; omega
    · obtain rfl : k = n := by omega
      have m0 := keepAt hin.out.2 mz HM0.out
      have HP := Lib.hid (pr_own hin.out.1)
      go_wp2_with fail
      refine (lowest_any k k (fun j => j) (tn f) _ _ HP.out (by omega) (fun i hi => ⟨hi, HMM.out.1.tn_lt hi⟩)).mono ?_
      rintro e w4 ⟨g, x, rfl, -, hb, hlw, heq, hx⟩
      clear m0
      have hfin : BI w4 g k (fun d => ((m d : Nat) : Int)) := Bk.congr hb fun d hd => by
        dsimp only
        rw [hlw.nm (k := 1) (st := fun _ => tn f) (m := m) (fun _ _ d hd => HMM.out.1.tn_lt hd) (fun _ _ a b ha hb h => HMM.out.1.inj a b ha hb (by rw [← HMM.out.1.tn_eq ha, ← HMM.out.1.tn_eq hb, h])) (fun i hi => ⟨hi, 0, by omega, rfl⟩) (fun j hj d hd => ⟨d, hd, rfl, rfl⟩) heq HMM.out.2 hd]
      have HF := Lib.hid (And.intro hfin (HB.out.trans (hin.out.2.trans hx)))
      clear hb hlw heq hx hfin
      go_wp2
      go_ret
      exact ⟨g, rfl, HF.out.1, HF.out.2⟩
end Go.Proofs.Ytijhbmdbnnmogaa.G
namespace Go.Proofs.Ytijhbmdbnnmogaa.G
open Go.RowKit

def pp (i : Nat) : Nat := i / 2
def pq (f : Nat → Int) (i : Nat) : Nat := if i % 2 = 0 then tn f (i / 2) else rev (i / 2)
theorem pls_two (f : Nat → Int) (k : Nat) : pls pp (pq f) (2 * (k + 1)) = pls pp (pq f) (2 * k) ++ [.int .i64 ((k : Nat) : Int), .int .i64 ((tn f k : Nat) : Int), .int .i64 ((k : Nat) : Int), .int .i64 ((rev k : Nat) : Int)] := by
  have e1 : pp (2 * k) = k := by unfold pp; omega
  have e2 : pp (2 * k + 1) = k := by unfold pp; omega
  have e3 : pq f (2 * k) = tn f k := by unfold pq; rw [if_pos (by omega), show 2 * k / 2 = k by omega]
  have e4 : pq f (2 * k + 1) = rev k := by unfold pq; rw [if_neg (by omega), show (2 * k + 1) / 2 = k by omega]
  rw [show 2 * (k + 1) = 2 * k + 1 + 1 by omega, pls_succ, pls_succ, List.append_assoc, e1, e2, e3, e4]
  rfl
theorem pq_lt {n : Nat} {f : Nat → Int} (h : Mp n f) {i : Nat} (hi : i < 2 * n) : pp i < n ∧ pq f i < n := by
  have h1 : i / 2 < n := by omega
  refine ⟨h1, ?_⟩
  unfold pq
  split
  · exact h.tn_lt h1
  · exact rev_lt h.even h1
theorem pt_inj {n : Nat} {f : Nat → Int} (h : Mp n f) {i a b : Nat} (ha : a < n) (hb : b < n) (e : pt f i a = pt f i b) : a = b := by
  unfold pt at e
  split at e
  · exact h.inj a b ha hb (by rw [← h.tn_eq ha, ← h.tn_eq hb, e])
  · rw [← rev_rev a, e, rev_rev]
theorem pq_in {n : Nat} {f : Nat → Int} {i : Nat} (hi : i < 2 * n) : pp i < n ∧ ∃ j, j < 2 ∧ pq f i = pt f j (pp i) := by
  refine ⟨by unfold pp; omega, i % 2, by omega, ?_⟩
  unfold pq pt pp
  split <;> rfl
theorem pq_all {n : Nat} {f : Nat → Int} {j d : Nat} (hj : j < 2) (hd : d < n) : ∃ i, i < 2 * n ∧ pp i = d ∧ pq f i = pt f j d := by
  refine ⟨2 * d + j, by omega, by unfold pp; omega, ?_⟩
  unfold pq pt
  rw [show (2 * d + j) % 2 = j by omega, show (2 * d + j) / 2 = d by omega]

set_option maxHeartbeats 4000000 in
set_option maxRecDepth 100000 in
theorem partR_any (n : Nat) (f : Nat → Int) (NV : Value) (W : World) (hN : Il W NV n f) (hM : Mp n f) (m : Nat → Nat) (hm : Nm n 2 (pt f) m) :
    Calls Try.prog 19 #[.agg #[NV]] W fun e W' => ∃ g, e = .returned (.slice (some ⟨g, 0, none⟩) n n) ∧ BI W' g n (fun d => ((m d : Nat) : Int)) ∧ Ext W W' := by
  have HN := Lib.hid hN; have HMM := Lib.hid (And.intro hM hm)
  have hn80 : n ≤ 80 := hM.le
  obtain ⟨A, c, rfl, hac, hcm, -⟩ := hN
  clear hM hm
  obtain ⟨i0, hi, hz0, hz1, hz2⟩ := info_parts info59
  have HI := Lib.hid (And.intro hi (And.intro hz0 (And.intro hz1 hz2)))
  clear hi hz0 hz1 hz2
  go_enter Try.func19, Try.ntmps19
  go_upto_region 1 with fail
  have bb := al1 W (.cells #[.slice A n c] 24)
  obtain ⟨m0, -, mz⟩ := uno (heap_alloc_new W (.cells #[.slice A n c] 24))
  generalize W.alloc (.cells #[.slice A n c] 24) = W1 at *
  have HB : Hid (Ext W W1) := Lib.hid bb
  have HM0 := Lib.hid m0
  clear bb
  go_wp2_with fail
  clear m0
  go_loopw [3, 9] (fun q i wr => ∃ k : Nat, i = .int .i64 k ∧ k ≤ n ∧ Hid (wr.ownsRow W1.heap.size 59 2 q (2 * k) (pls pp (pq f) (2 * k)) ∧ Ext W1 wr)) (fun _ i _ => n - (intOf i).toNat)
  case atStart => exact ⟨0, rfl, Nat.zero_le _, Lib.hid ⟨World.ownsRow_nil _ _ _ _, Ext.refl _⟩⟩
  case round =>
    obtain ⟨k, rfl, hk, hin⟩ := hrel
    obtain ⟨Av, cv, rfl⟩ := shape_own hin.out.1
    obtain ⟨wo, rfl⟩ : ∃ w, w = wr := ⟨_, rfl⟩
    by_cases hlt : k < n
    · obtain ⟨b1, o1, rfl, -, e1⟩ := Vl.at HN.out (HB.out.trans hin.out.2) hlt
      obtain ⟨z, hz⟩ : ∃ z, z = tn f k := ⟨_, rfl⟩
      rw [← HMM.out.1.tn_eq hlt, ← hz] at e1
      obtain ⟨v, hv⟩ : ∃ v, v = rev k := ⟨_, rfl⟩
      have hbx : bits .xor .i64 (k : Int) 1 = (v : Int) := by rw [hv]; exact bits_rev k (by omega)
      have HZ := Lib.hid (And.intro hz hv)
      clear hz hv
      have hown0 := hin.out.1
      obtain ⟨L, hL⟩ : ∃ L, L = 2 * k := ⟨_, rfl⟩
      have HL := Lib.hid hL
      have hL200 : L ≤ 200 := by omega
      rw [← hL] at hown0 ⊢
      clear hL
      have hown := World.ownsRow.ext hown0 (Ext.alc (Ext.refl wo) (.cells #[.int .i64 (k : Nat), .int .i64 (z : Nat), .int .i64 (k : Nat), .int .i64 (v : Nat)] 59))
      go_wp2_with (at_builtin; refine wpList_append_own _ rfl _ _ 58 rfl W1.heap.size 59 i0 (.agg #[.int .i64 0, .int .i64 0]) 2 16 Try.underlying58 HI.out.1 HI.out.2.1 HI.out.2.2.1 HI.out.2.2.2 rfl (by decide) _ L _ rfl hown ⟨wo.heap.size, 0, none⟩ 2 2 [.int .i64 (k : Nat), .int .i64 (z : Nat), .int .i64 (k : Nat), .int .i64 (v : Nat)] rfl rfl (nw4 _ _ _ _ _ _) ?c2 ?c3 ?c4 ?c5 ?_)
      case c2 => intro uu hu; simp at hu; rcases hu with rfl | rfl | rfl | rfl <;> rfl
      case c3 => unfold maxLen; omega
      case c4 => omega
      case c5 => have := hin.out.2.size; first | omega | (simp; done) | (simp; omega)
      intro v' w3 hown' hgrow _hnil
      clear _hnil
      have hex : Ext W1 w3 := ext_grow (hin.out.2.alc _) hgrow (fun b' hb' => (World.ownsRow.lt hown b' hb').1) (Nat.le_refl _)
      have HNX : Hid (w3.ownsRow W1.heap.size 59 2 v' (2 * (k + 1)) (pls pp (pq f) (2 * (k + 1))) ∧ Ext W1 w3) := Lib.hid ⟨(by
        have e : 2 * (k + 1) = L + 2 := by have := HL.out; omega
        rw [pls_two, ← HZ.out.1, ← HZ.out.2, e, ← HL.out]; exact hown'), hex⟩
      clear hown' hex hgrow hown e1
      go_wp2
      go_roundw
      case rel => exact ⟨k + 1, by go_num, by omega, HNX⟩
      case measure => simp [intOf]; omega
    · obtain rfl : k = n := by omega
      have m0 := keepAt hin.out.2 mz HM0.out
      have HP := Lib.hid (pr_own hin.out.1)
      go_wp2_with fail
      refine (lowest_any k (2 * k) pp (pq f) _ _ HP.out (by omega) (fun i hi => pq_lt HMM.out.1 hi)).mono ?_
      rintro e w4 ⟨g, x, rfl, -, hb, hlw, heq, hx⟩
      clear m0
      have hfin : BI w4 g k (fun d => ((m d : Nat) : Int)) := Bk.congr hb fun d hd => by
        dsimp only
        rw [hlw.nm (k := 2) (st := pt f) (m := m) (fun i _ d hd => HMM.out.1.pt_lt i hd) (fun i hi a b ha hb h => pt_inj HMM.out.1 ha hb h) (fun i hi => pq_in hi) (fun j hj d hd => pq_all hj hd) heq HMM.out.2 hd]
      have HF := Lib.hid (And.intro hfin (HB.out.trans (hin.out.2.trans hx)))
      clear hb hlw heq hx hfin
      go_wp2
      go_ret
      exact ⟨g, rfl, HF.out.1, HF.out.2⟩
end Go.Proofs.Ytijhbmdbnnmogaa.G
namespace Go.Proofs.Ytijhbmdbnnmogaa.G
open Go.RowKit

/-- what each returns: the names by k steps, or the error -/
def RetN (n : Nat) (f : Nat → Int) (k : Nat) (st : Nat → Nat → Nat) (W : World) (e : Ending) (W' : World) : Prop := ∃ V er, e = .returned (.tuple #[V, .int .i64 er]) ∧ Ext W W' ∧
  ((vMap n f = false ∧ V = .slice none 0 0 ∧ er = 2) ∨ (vMap n f = true ∧ er = 0 ∧ ∃ m, Nm n k st m ∧ Il W' V n (fun d => ((m d : Nat) : Int))))
set_option maxHeartbeats 4000000 in
set_option maxRecDepth 100000 in
theorem vertexS_any (n : Nat) (f : Nat → Int) (NV : Value) (W : World) (hN : Il W NV n f) :
    Calls Try.prog 7 #[.agg #[NV]] W (RetN n f 1 (fun _ => tn f) W) := by
  have HN := Lib.hid hN
  obtain ⟨A, c, rfl, hac, hcm, -⟩ := hN
  go_enter Try.func7, Try.ntmps7
  go_upto_region 1 with fail
  have bb := al1 W (.cells #[.slice A n c] 28)
  obtain ⟨m0, -, mz⟩ := uno (heap_alloc_new W (.cells #[.slice A n c] 28))
  generalize W.alloc (.cells #[.slice A n c] 28) = W1 at *
  have HB : Hid (Ext W W1) := Lib.hid bb
  have HM := Lib.hid m0
  clear bb
  go_wp2_with fail
  refine (validS_any n f _ _ (HN.out.ext HB.out)).mono ?_
  rintro e w1 ⟨rfl, hx⟩
  have HX : Hid (Ext W1 w1) := Lib.hid hx
  clear m0
  have m0 := keepAt hx mz HM.out
  clear hx
  cases hv : vMap n f
  · have HV := Lib.hid hv; clear hv
    go_wp2
    refine bodyPost_ret (v := .tuple #[.slice none 0 0, .int .i64 2]) (by simp [results, Try.results7, go_sem]) rfl ⟨_, _, rfl, HB.out.trans HX.out, .inl ⟨HV.out, rfl, rfl⟩⟩
  · have hM := vMap_mp hv
    have hn : n ≤ 80 := hM.le
    have HV := Lib.hid (And.intro hv hM)
    clear hv hM
    go_wp2_with fail
    have h1 := heap_alloc_new w1 (.cells #[.func (.func 30) #[.agg #[.slice A n c]] #[]] 50)
    have e1 : Ext w1 (w1.alloc (.cells #[.func (.func 30) #[.agg #[.slice A n c]] #[]] 50)) := Ext.alc (Ext.refl _) _
    refine (names_turn n f (.slice A n c) w1.heap.size _ (HN.out.ext (HB.out.trans (HX.out.trans e1))) HV.out.2 h1).mono ?_
    rintro e w2 ⟨k1, g1, rfl, -, hb, hnm, hx⟩
    have HR := Lib.hid (And.intro (hb.il (by omega)) (And.intro hnm (HB.out.trans (HX.out.trans (e1.trans hx)))))
    clear h1 e1 hb hx hnm m0
    go_wp2
    refine bodyPost_ret (v := .tuple #[.slice (some ⟨g1, 0, none⟩) n n, .int .i64 0]) (by simp [results, Try.results7, go_sem]) rfl ⟨_, _, rfl, HR.out.2.2, .inr ⟨HV.out.1, rfl, k1, HR.out.2.1, HR.out.1⟩⟩

set_option maxHeartbeats 4000000 in
set_option maxRecDepth 100000 in
theorem faceS_any (n : Nat) (f : Nat → Int) (NV : Value) (W : World) (hN : Il W NV n f) :
    Calls Try.prog 9 #[.agg #[NV]] W (RetN n f 1 (fun _ => fl f) W) := by
  have HN := Lib.hid hN
  obtain ⟨A, c, rfl, hac, hcm, -⟩ := hN
  go_enter Try.func9, Try.ntmps9
  go_upto_region 1 with fail
  have bb := al1 W (.cells #[.slice A n c] 28)
  obtain ⟨m0, -, mz⟩ := uno (heap_alloc_new W (.cells #[.slice A n c] 28))
  generalize W.alloc (.cells #[.slice A n c] 28) = W1 at *
  have HB : Hid (Ext W W1) := Lib.hid bb
  have HM := Lib.hid m0
  clear bb
  go_wp2_with fail
  refine (validS_any n f _ _ (HN.out.ext HB.out)).mono ?_
  rintro e w1 ⟨rfl, hx⟩
  have HX : Hid (Ext W1 w1) := Lib.hid hx
  clear m0
  have m0 := keepAt hx mz HM.out
  clear hx
  cases hv : vMap n f
  · have HV := Lib.hid hv; clear hv
    go_wp2
    refine bodyPost_ret (v := .tuple #[.slice none 0 0, .int .i64 2]) (by simp [results, Try.results9, go_sem]) rfl ⟨_, _, rfl, HB.out.trans HX.out, .inl ⟨HV.out, rfl, rfl⟩⟩
  · have hM := vMap_mp hv
    have hn : n ≤ 80 := hM.le
    have HV := Lib.hid (And.intro hv hM)
    clear hv hM
    go_wp2_with fail
    have h1 := heap_alloc_new w1 (.cells #[.func (.func 32) #[.agg #[.slice A n c]] #[]] 50)
    have e1 : Ext w1 (w1.alloc (.cells #[.func (.func 32) #[.agg #[.slice A n c]] #[]] 50)) := Ext.alc (Ext.refl _) _
    refine (names_follow n f (.slice A n c) w1.heap.size _ (HN.out.ext (HB.out.trans (HX.out.trans e1))) HV.out.2 h1).mono ?_
    rintro e w2 ⟨k1, g1, rfl, -, hb, hnm, hx⟩
    have HR := Lib.hid (And.intro (hb.il (by omega)) (And.intro hnm (HB.out.trans (HX.out.trans (e1.trans hx)))))
    clear h1 e1 hb hx hnm m0
    go_wp2
    refine bodyPost_ret (v := .tuple #[.slice (some ⟨g1, 0, none⟩) n n, .int .i64 0]) (by simp [results, Try.results9, go_sem]) rfl ⟨_, _, rfl, HR.out.2.2, .inr ⟨HV.out.1, rfl, k1, HR.out.2.1, HR.out.1⟩⟩

set_option maxHeartbeats 4000000 in
set_option maxRecDepth 100000 in
theorem partS_any (n : Nat) (f : Nat → Int) (NV : Value) (W : World) (hN : Il W NV n f) :
    Calls Try.prog 10 #[.agg #[NV]] W (RetN n f 2 (pt f) W) := by
  have HN := Lib.hid hN
  obtain ⟨A, c, rfl, hac, hcm, -⟩ := hN
  go_enter Try.func10, Try.ntmps10
  go_upto_region 1 with fail
  have bb := al1 W (.cells #[.slice A n c] 28)
  obtain ⟨m0, -, mz⟩ := uno (heap_alloc_new W (.cells #[.slice A n c] 28))
  generalize W.alloc (.cells #[.slice A n c] 28) = W1 at *
  have HB : Hid (Ext W W1) := Lib.hid bb
  have HM := Lib.hid m0
  clear bb
  go_wp2_with fail
  refine (validS_any n f _ _ (HN.out.ext HB.out)).mono ?_
  rintro e w1 ⟨rfl, hx⟩
  have HX : Hid (Ext W1 w1) := Lib.hid hx
  clear m0
  have m0 := keepAt hx mz HM.out
  clear hx
  cases hv : vMap n f
  · have HV := Lib.hid hv; clear hv
    go_wp2
    refine bodyPost_ret (v := .tuple #[.slice none 0 0, .int .i64 2]) (by simp [results, Try.results10, go_sem]) rfl ⟨_, _, rfl, HB.out.trans HX.out, .inl ⟨HV.out, rfl, rfl⟩⟩
  · have hM := vMap_mp hv
    have hn : n ≤ 80 := hM.le
    have HV := Lib.hid (And.intro hv hM)
    clear hv hM
    go_wp2_with fail
    have h1 := heap_alloc_new w1 (.cells #[.func (.func 30) #[.agg #[.slice A n c]] #[], .func (.func 33) #[] #[]] 50)
    have e1 : Ext w1 (w1.alloc (.cells #[.func (.func 30) #[.agg #[.slice A n c]] #[], .func (.func 33) #[] #[]] 50)) := Ext.alc (Ext.refl _) _
    refine (names_part n f (.slice A n c) w1.heap.size _ (HN.out.ext (HB.out.trans (HX.out.trans e1))) HV.out.2 h1).mono ?_
    rintro e w2 ⟨k1, g1, rfl, -, hb, hnm, hx⟩
    have HR := Lib.hid (And.intro (hb.il (by omega)) (And.intro hnm (HB.out.trans (HX.out.trans (e1.trans hx)))))
    clear h1 e1 hb hx hnm m0
    go_wp2
    refine bodyPost_ret (v := .tuple #[.slice (some ⟨g1, 0, none⟩) n n, .int .i64 0]) (by simp [results, Try.results10, go_sem]) rfl ⟨_, _, rfl, HR.out.2.2, .inr ⟨HV.out.1, rfl, k1, HR.out.2.1, HR.out.1⟩⟩

end Go.Proofs.Ytijhbmdbnnmogaa.G
namespace Go.Proofs.Ytijhbmdbnnmogaa.G
open Go.RowKit

set_option maxHeartbeats 4000000 in
set_option maxRecDepth 100000 in
theorem namesR_any (n : Nat) (m : Nat → Nat) (NV : Value) (W : World) (hN : Il W NV n (fun d => ((m d : Nat) : Int))) (hn : n ≤ 1000) :
    Calls Try.prog 38 #[NV] W fun e W' => e = .returned (.int .i64 (rank m n : Nat)) ∧ Ext W W' := by
  have HN := Lib.hid hN
  obtain ⟨A, c, rfl, hac, hcm, -⟩ := hN
  go_enter Try.func38, Try.ntmps38
  go_wp2_with fail
  go_loopw [3, 8] (fun t i wr => ∃ k : Nat, i = .int .i64 k ∧ k ≤ n ∧ t = .int .i64 (rank m k : Nat) ∧ Hid (Ext W wr)) (fun _ i _ => n - (intOf i).toNat)
  case atStart => exact ⟨0, rfl, Nat.zero_le _, rfl, Lib.hid (Ext.refl _)⟩
  case round =>
    obtain ⟨k, rfl, hk, rfl, hin⟩ := hrel
    obtain ⟨r, hr⟩ : ∃ r, r = rank m k := ⟨_, rfl⟩
    have hr2 : r ≤ 1000 := by have := rank_le m k; omega
    rw [← hr]
    have HR := Lib.hid hr
    clear hr
    by_cases hlt : k < n
    · obtain ⟨b1, o1, rfl, -, e1⟩ := Vl.at HN.out hin.out hlt
      dsimp only at e1
      obtain ⟨z, hz⟩ : ∃ z, z = m k := ⟨_, rfl⟩
      rw [← hz] at e1
      have HZ := Lib.hid hz
      clear hz
      by_cases h : z = k
      · subst h
        have hbe : ((z : Int) == (z : Int)) = true := by simp
        go_wp2
        go_roundw
        case rel => exact ⟨z + 1, by go_num, by omega, by rw [show rank m (z + 1) = r + 1 by unfold rank; rw [if_pos HZ.out.symm, HR.out]]; simp, Lib.hid hin.out⟩
        case measure => simp [intOf]; omega
      · have hbe : ((k : Int) == (z : Int)) = false := by simp; omega
        go_wp2
        go_roundw
        case rel => exact ⟨k + 1, by go_num, by omega, by rw [show rank m (k + 1) = r by conv => lhs; unfold rank
                                                                                         rw [if_neg (fun e => h (by rw [HZ.out]; exact e)), Nat.add_zero, HR.out]], Lib.hid hin.out⟩
        case measure => simp [intOf]; omega
    · obtain rfl : k = n := by omega
      go_wp2
      go_ret
      exact ⟨by rw [← HR.out]; rfl, hin.out⟩

set_option maxHeartbeats 4000000 in
set_option maxRecDepth 100000 in
theorem dualR_any (n : Nat) (f : Nat → Int) (NV : Value) (W : World) (hN : Il W NV n f) (hn : n ≤ 80) (hev : n % 2 = 0) :
    Calls Try.prog 23 #[.agg #[NV]] W fun e W' => ∃ V, e = .returned (.agg #[V]) ∧ Il W' V n (fun d => f (rev d)) ∧ Ext W W' := by
  have HN := Lib.hid hN; have HEV := Lib.hid hev
  clear hev
  obtain ⟨A, c, rfl, hac, hcm, -⟩ := hN
  obtain ⟨i0, hi, hz0, hz1, hz2⟩ := info_parts info3
  have HI := Lib.hid (And.intro hi (And.intro hz0 (And.intro hz1 hz2)))
  clear hi hz0 hz1 hz2
  go_enter Try.func23, Try.ntmps23
  go_upto_region 1 with fail
  have bb := al2 W (.cells #[.slice A n c] 24) (.cells #[.slice none 0 0] 24)
  have h0 := (Below.heap_alloc (W.alloc (.cells #[.slice A n c] 24)) (.cells #[.slice none 0 0] 24) W.heap.size (by simp)).trans (heap_alloc_new W (.cells #[.slice A n c] 24))
  have h1 := heap_alloc_new (W.alloc (.cells #[.slice A n c] 24)) (.cells #[.slice none 0 0] 24)
  simp only [World.size_alloc] at h1
  generalize (W.alloc (.cells #[.slice A n c] 24)).alloc (.cells #[.slice none 0 0] 24) = w2 at *
  obtain ⟨m0, -, mz⟩ := uno h0
  have HB : Hid (Ext W w2) := Lib.hid bb
  have HB0 := bb.size
  have H1 := Lib.hid h1
  have hmz1 : W.heap.size + 1 < w2.heap.size := (uno h1).2.2
  clear bb h0 h1
  go_upto_region 2 with fail
  have b3 := al1 w2 (.cells #[.slice none 0 0] 24)
  have h3 := heap_alloc_new w2 (.cells #[.slice none 0 0] 24)
  obtain ⟨z, hz⟩ : ∃ z, z = w2.heap.size := ⟨_, rfl⟩
  obtain ⟨zi, hzi⟩ : ∃ z, z = W.heap.size := ⟨_, rfl⟩
  rw [← hz] at h3 ⊢
  generalize w2.alloc (.cells #[.slice none 0 0] 24) = w3 at *
  have hz3 : z < w3.heap.size := (uno h3).2.2
  have m3 := keepAt b3 mz m0
  rw [← hzi] at m3 m0 mz H1 hmz1 HB0 ⊢
  have HM0 := Lib.hid m0
  have hw2 : w2.heap.size ≤ z := Nat.le_of_eq hz.symm
  have HW2 := Lib.hid hw2
  have H3 := Lib.hid (And.intro h3 b3)
  have hzi3 : zi < w3.heap.size := by have := b3.size; omega
  have hznz : zi ≠ z := by omega
  have HZI := Lib.hid (And.intro hzi hznz)
  have HZ0 := Lib.hid hzi
  clear hz hw2 b3 h3 hzi m0
  go_wp2_with fail
  clear m3
  go_loopw [8] (fun i wr => ∃ (k : Nat) (q : Value), i = .int .i64 k ∧ k ≤ n ∧ Hid (wr.heap[z]? = some (.cells #[q] 24 (0, 0)) ∧ Qs wr w3.heap.size q k (fun d => f (rev d)) ∧ Ext w2 wr ∧ w3.heap.size ≤ wr.heap.size)) (fun i _ => n - (intOf i).toNat)
  case atStart => exact ⟨0, _, rfl, Nat.zero_le _, Lib.hid ⟨H3.out.1, Qs.nil _ _ _, H3.out.2, Nat.le_refl _⟩⟩
  case round =>
    clear H3
    obtain ⟨k, q, rfl, hk, hin⟩ := hrel
    obtain ⟨Av, cv, rfl⟩ : ∃ A c, q = .slice A k c := by obtain ⟨-, A, c, h, -⟩ := hin.out.2.1; exact ⟨A, c, h⟩
    by_cases hlt : k < n
    · obtain ⟨rv, hrv⟩ : ∃ v, v = rev k := ⟨_, rfl⟩
      have hrn : rv < n := by rw [hrv]; exact rev_lt HEV.out hlt
      have hbx : bits .xor .i64 (k : Int) 1 = (rv : Int) := by rw [hrv]; exact bits_rev k (by omega)
      obtain ⟨b1, o1, rfl, hbW, e1⟩ := Vl.at HN.out (Ext.refl _) hrn
      obtain ⟨y, hy⟩ : ∃ y, y = f rv := ⟨_, rfl⟩
      rw [← hy] at e1
      have HY := Lib.hid (And.intro hy hrv)
      clear hy hrv
      have hSS : wr.cell? ⟨z, 0, none⟩ = some (.slice Av k cv) ∧ wr.cell? ⟨zi, 0, none⟩ = some (.slice (some ⟨b1, o1, none⟩) n c) ∧ wr.cell? ⟨b1, o1 + rv, none⟩ = some (.int .i64 y) := ⟨(uno hin.out.1).1, keepAt hin.out.2.2.1 mz HM0.out, keepAt (HB.out.trans hin.out.2.2.1) hbW e1⟩
      have hsz : w2.heap.size ≤ wr.heap.size := hin.out.2.2.1.size
      have hbw2 : b1 < w2.heap.size := Nat.lt_of_lt_of_le hbW HB.out.size
      have hlt3 : z < wr.heap.size := (uno hin.out.1).2.2
      have hw3r : w3.heap.size ≤ wr.heap.size := hin.out.2.2.2
      have HSS := Lib.hid hSS
      have HLT := Lib.hid (And.intro hlt3 (And.intro (show zi < wr.heap.size by omega) (show b1 < wr.heap.size by omega)))
      have HLT2 := Lib.hid hw3r
      have HZ3 := Lib.hid (And.intro hz3 (And.intro hzi3 (show b1 < w3.heap.size by have := HW2.out; omega)))
      clear hSS e1 hsz hbw2 hlt3 hw3r
      go_upto_region 5 with fail
      refine wp_region_noPanic ?_
      refine wp_split (S := fun X => X.cell? ⟨z, 0, none⟩ = some (.slice Av k cv) ∧ X.cell? ⟨zi, 0, none⟩ = some (.slice (some ⟨b1, o1, none⟩) n c) ∧ X.cell? ⟨b1, o1 + rv, none⟩ = some (.int .i64 y)) 10 (by kernel_rfl) (by kernel_rfl) HSS.out ?_
      simp only [List.take_succ_cons, List.take_zero, List.drop_succ_cons, List.drop_zero]
      refine take_at 0 (some 11) (.pointer (some ⟨z, 0, none⟩)) rfl rfl (by kernel_rfl) (by kernel_rfl) (by kernel_rfl) (fun _ _ _ h => h) (Or.inl ⟨by rfl, fun w' hSw => ?_⟩) (HSS.out) ?_
      · skip
        try clear hSw
        go_simp
        all_goals (with_reducible rfl)
      try simp only [Act.put, List.setIfInBounds_toArray, List.set_cons_zero, List.set_cons_succ]
      refine take_at 1 (some 12) (.slice Av k cv) rfl rfl (by kernel_rfl) (by kernel_rfl) (by kernel_rfl) (fun _ _ _ h => h) (Or.inl ⟨by rfl, fun w' hSw => ?_⟩) (HSS.out) ?_
      · obtain ⟨s1, s2, s3⟩ := hSw
        try clear hSw
        go_simp
        all_goals (with_reducible rfl)
      try simp only [Act.put, List.setIfInBounds_toArray, List.set_cons_zero, List.set_cons_succ]
      refine take_at 2 (some 13) (.pointer (some ⟨zi, 0, none⟩)) rfl rfl (by kernel_rfl) (by kernel_rfl) (by kernel_rfl) (fun _ _ _ h => h) (Or.inl ⟨by rfl, fun w' hSw => ?_⟩) (HSS.out) ?_
      · skip
        try clear hSw
        go_simp
        all_goals (with_reducible rfl)
      try simp only [Act.put, List.setIfInBounds_toArray, List.set_cons_zero, List.set_cons_succ]
      refine take_at 3 (some 14) (.slice (some ⟨b1, o1, none⟩) n c) rfl rfl (by kernel_rfl) (by kernel_rfl) (by kernel_rfl) (fun _ _ _ h => h) (Or.inl ⟨by rfl, fun w' hSw => ?_⟩) (HSS.out) ?_
      · obtain ⟨s1, s2, s3⟩ := hSw
        try clear hSw
        go_simp
        all_goals (with_reducible rfl)
      try simp only [Act.put, List.setIfInBounds_toArray, List.set_cons_zero, List.set_cons_succ]
      refine take_at 4 (some 15) (.int .i64 k) rfl rfl (by kernel_rfl) (by kernel_rfl) (by kernel_rfl) (fun _ _ _ h => h) (Or.inl ⟨by rfl, fun w' hSw => ?_⟩) (HSS.out) ?_
      · skip
        try clear hSw
        go_simp
        all_goals (with_reducible rfl)
      try simp only [Act.put, List.setIfInBounds_toArray, List.set_cons_zero, List.set_cons_succ]
      refine take_at 5 (some 16) (.int .i64 rv) rfl rfl (by kernel_rfl) (by kernel_rfl) (by kernel_rfl) (fun _ _ _ h => h) (Or.inl ⟨by rfl, fun w' hSw => ?_⟩) (HSS.out) ?_
      · have hb2 := hbx
        try clear hSw
        go_simp
        all_goals (first | (with_reducible rfl) | (rw [hbx]) | (simp [hbx]; done))
      try simp only [Act.put, List.setIfInBounds_toArray, List.set_cons_zero, List.set_cons_succ]
      refine take_at 6 (some 17) (.pointer (some ⟨b1, o1 + rv, none⟩)) rfl rfl (by kernel_rfl) (by kernel_rfl) (by kernel_rfl) (fun _ _ _ h => h) (Or.inl ⟨by rfl, fun w' hSw => ?_⟩) (HSS.out) ?_
      · skip
        try clear hSw
        go_simp
        all_goals (with_reducible rfl)
      try simp only [Act.put, List.setIfInBounds_toArray, List.set_cons_zero, List.set_cons_succ]
      refine take_at 7 (some 18) (.int .i64 y) rfl rfl (by kernel_rfl) (by kernel_rfl) (by kernel_rfl) (fun _ _ _ h => h) (Or.inl ⟨by rfl, fun w' hSw => ?_⟩) (HSS.out) ?_
      · obtain ⟨s1, s2, s3⟩ := hSw
        try clear hSw
        go_simp
        all_goals (with_reducible rfl)
      try simp only [Act.put, List.setIfInBounds_toArray, List.set_cons_zero, List.set_cons_succ]
      have hS2 : (wr.drew.alloc (.cells #[.int .i64 y] 3)).cell? ⟨z, 0, none⟩ = some (.slice Av k cv) ∧ (wr.drew.alloc (.cells #[.int .i64 y] 3)).cell? ⟨zi, 0, none⟩ = some (.slice (some ⟨b1, o1, none⟩) n c) ∧ (wr.drew.alloc (.cells #[.int .i64 y] 3)).cell? ⟨b1, o1 + rv, none⟩ = some (.int .i64 y) := by
        obtain ⟨s1, s2, s3⟩ := HSS.out
        have hx : Ext wr (wr.drew.alloc (.cells #[.int .i64 y] 3)) := Ext.alc (Ext.drw (Ext.refl _)) _
        exact ⟨keepAt hx HLT.out.1 s1, keepAt hx HLT.out.2.1 s2, keepAt hx HLT.out.2.2 s3⟩
      refine wpAnyH_ready (rs := [8]) (by kernel_rfl) (by simp) ?_
      refine AllReadyH.cons rfl (fun K hK => ?_) AllReadyH.nil
      go_simp
      refine hK.out _ _ hS2 (fun _ => ?_)
      clear hK K
      try simp only [Act.put, List.setIfInBounds_toArray, List.set_cons_zero, List.set_cons_succ]
      refine wpAnyH_ready (rs := [9]) (by kernel_rfl) (by simp) ?_
      refine AllReadyH.cons rfl (fun K hK => ?_) AllReadyH.nil
      refine wp_append_q _ _ 22 rfl i0 Try.underlying22 HI.out.1 HI.out.2.1 HI.out.2.2.1 HI.out.2.2.2 w3.heap.size (.slice Av k cv) k (fun d => f (rev d)) rfl ?qs ?base ⟨wr.heap.size, 0, none⟩ 1 y rfl ?cell ?n ?_
      case qs => exact hin.out.2.1.ext (Ext.alc (Ext.drw (Ext.refl _)) _)
      case base => have := HLT2.out; simp; omega
      case cell => show (wr.drew.alloc (.cells #[.int .i64 y] 3)).cell? ⟨wr.drew.heap.size, 0, none⟩ = _; rw [World.cell?_alloc_new]; rfl
      case n => omega
      intro v0 w4 hq4 hgr
      obtain ⟨A4, n4, c4, hv0⟩ : ∃ A n c, v0 = .slice A n c := by obtain ⟨-, A, c, h, -⟩ := hq4; exact ⟨A, _, c, h⟩
      subst hv0
      have hob : ∀ b, (Value.slice Av k cv).ownBlock = some b → w3.heap.size ≤ b := fun b hb => (hin.out.2.1.1 b hb).1
      have hk4 : ∀ b o, b < w3.heap.size → w4.cell? ⟨b, o, none⟩ = (wr.drew.alloc (.cells #[.int .i64 y] 3)).cell? ⟨b, o, none⟩ := fun b o hb => World.cell?_of_block (hgr.by_.block b (by have := HLT2.out; simp; omega) (fun e => by have := hob b e.symm; omega))
      have hS3 : w4.cell? ⟨z, 0, none⟩ = some (.slice Av k cv) ∧ w4.cell? ⟨zi, 0, none⟩ = some (.slice (some ⟨b1, o1, none⟩) n c) ∧ w4.cell? ⟨b1, o1 + rv, none⟩ = some (.int .i64 y) := by
        obtain ⟨s1, s2, s3⟩ := hS2
        exact ⟨(hk4 _ _ HZ3.out.1).trans s1, (hk4 _ _ HZ3.out.2.1).trans s2, (hk4 _ _ HZ3.out.2.2).trans s3⟩
      refine hK.out _ _ hS3 (fun _ => ?_)
      clear hK K
      try simp only [Act.put, List.setIfInBounds_toArray, List.set_cons_zero, List.set_cons_succ]
      refine wpAnyH_done (by kernel_rfl) ?_ _
      refine cut_normal ?_
      have hzb : w4.heap[z]? = some (.cells #[.slice Av k cv] 24 (0, 0)) := (hgr.by_.block z (by have := HLT2.out; have := HZ3.out.1; simp; omega) (fun e => by have := hob z e.symm; have := HZ3.out.1; omega)).trans ((Below.heap_alloc wr.drew _ z HLT.out.1).trans hin.out.1)
      have hex : Ext w2 w4 := hgr.ext ((hin.out.2.2.1.drw).alc _) (fun b hb => by have := hob b hb; have := HZ3.out.1; have := HW2.out; omega)
      obtain ⟨zc0, zf0, zl0⟩ := uno hzb
      have F1 : (w4.setCell ⟨z, 0, none⟩ (.slice A4 n4 c4)).heap[z]? = some (.cells #[.slice A4 n4 c4] 24 (0, 0)) := by simp [World.setCell, Array.getElem?_modify, hzb]
      have F2 : Qs (w4.setCell ⟨z, 0, none⟩ (.slice A4 n4 c4)) w3.heap.size (.slice A4 n4 c4) (k + 1) (fun d => f (rev d)) := (hq4.far HZ3.out.1).congr fun d hd => by
        by_cases e : d = k
        · subst e; rw [up_self, HY.out.1, HY.out.2]
        · rw [up_ne _ _ e]
      have F3 : Ext w2 (w4.setCell ⟨z, 0, none⟩ (.slice A4 n4 c4)) := hex.sc HW2.out
      have F4 : w3.heap.size ≤ (w4.setCell ⟨z, 0, none⟩ (.slice A4 n4 c4)).heap.size := by have h1 := hgr.by_.size; have := HLT2.out; simp [World.setCell] at h1 ⊢; omega
      have HF := Lib.hid (And.intro F1 (And.intro F2 (And.intro F3 F4)))
      clear F1 F2 F3 F4 hq4 hgr hob hk4 hS2 hS3 hzb hex zl0
      go_wp2_with fail
      refine NoPanic.normal ?_
      go_wp2
      go_roundw
      case rel => exact ⟨k + 1, _, by go_num, by omega, HF⟩
      case measure => simp [intOf]; omega
    · obtain rfl : k = n := by omega
      obtain ⟨z0, -, -⟩ := uno hin.out.1
      have h5 : wr.heap[zi + 1]? = some (.cells #[.slice none 0 0] 24 (0, 0)) := (Below.block hin.out.2.2.1 _ hmz1).trans H1.out
      obtain ⟨c0, f0, -⟩ := uno h5
      have g0 : (wr.setCell ⟨zi + 1, 0, none⟩ (.slice Av k cv)).cell? ⟨zi + 1, 0, none⟩ = some (.slice Av k cv) := World.cell?_setCell_same _ _ _ c0
      have hx5 : Ext W (wr.setCell ⟨zi + 1, 0, none⟩ (.slice Av k cv)) := (HB.out.trans hin.out.2.2.1).sc (by have := HZ0.out; omega)
      have hq5 : Qs (wr.setCell ⟨zi + 1, 0, none⟩ (.slice Av k cv)) w3.heap.size (.slice Av k cv) k (fun d => f (rev d)) := hin.out.2.1.far (by have := HW2.out; omega)
      have HF := Lib.hid (And.intro hq5.il hx5)
      clear h5 hx5 hq5
      go_wp2
      exact bodyPost_ret (v := .agg #[.slice Av k cv]) (by simp [results, Try.results23, go_sem, g0]) rfl ⟨_, rfl, HF.out.1, HF.out.2⟩
end Go.Proofs.Ytijhbmdbnnmogaa.G
