/- Walks: different, Euler. · Walks: edges and ends of a graph. · Walks: Repeat of one number, ones. -/
import Derived.Test.YtijhbmdbnnmogaaM2
import Derived.Test.YtijhbmdbnnmogaaM15
import Derived.Laws.CopyRow
namespace Go.Proofs.Ytijhbmdbnnmogaa.G
open Go.RowKit

/-- the steps: around a face, and both of a part -/
def fl (f : Nat → Int) (d : Nat) : Nat := tn f (rev d)
def pt (f : Nat → Int) (i d : Nat) : Nat := if i = 0 then tn f d else rev d
theorem Mp.fl_lt {n : Nat} {f : Nat → Int} (h : Mp n f) {d : Nat} (hd : d < n) : fl f d < n := h.tn_lt (rev_lt h.even hd)
theorem Mp.pt_lt {n : Nat} {f : Nat → Int} (h : Mp n f) (i : Nat) {d : Nat} (hd : d < n) : pt f i d < n := by
  unfold pt; split
  · exact h.tn_lt hd
  · exact rev_lt h.even hd
theorem names_follow (n : Nat) (f : Nat → Int) (NV : Value) (b : Nat) (W : World) (hN : Il W NV n f) (hM : Mp n f) (hb : W.heap[b]? = some (.cells #[.func (.func 32) #[.agg #[NV]] #[]] 50 (0, 0))) :
    Calls Try.prog 29 #[.agg #[NV], .slice (some ⟨b, 0, none⟩) 1 1] W fun e W' => ∃ (m : Nat → Nat) (g : Nat), e = .returned (.slice (some ⟨g, 0, none⟩) n n) ∧ W.heap.size ≤ g ∧ BI W' g n (fun d => ((m d : Nat) : Int)) ∧ Nm n 1 (fun _ => fl f) m ∧ Ext W W' := by
  obtain ⟨u0, -, ul⟩ := uno hb
  refine names_any n 1 f (fun _ => fl f) (fun _ => 32) (fun _ => #[.agg #[NV]]) NV _ W hN (by have := hM.le; omega) (by omega) ⟨_, 1, rfl, Nat.le_refl _, by omega, fun _ => ⟨b, 0, rfl, ul, fun j hj => ?_⟩⟩ (fun _ _ d hd => hM.fl_lt hd) (fun _ _ => call32) (fun _ _ X hX d hd => ?_)
  · obtain rfl : j = 0 := by omega
    exact u0
  · refine (follow_any n f NV d X (hN.ext hX) hd (by have := hM.le; omega) hM.even).mono ?_
    rintro e w ⟨rfl, h⟩
    exact ⟨by unfold fl; rw [hM.tn_eq (rev_lt hM.even hd)], h⟩
theorem names_part (n : Nat) (f : Nat → Int) (NV : Value) (b : Nat) (W : World) (hN : Il W NV n f) (hM : Mp n f) (hb : W.heap[b]? = some (.cells #[.func (.func 30) #[.agg #[NV]] #[], .func (.func 33) #[] #[]] 50 (0, 0))) :
    Calls Try.prog 29 #[.agg #[NV], .slice (some ⟨b, 0, none⟩) 2 2] W fun e W' => ∃ (m : Nat → Nat) (g : Nat), e = .returned (.slice (some ⟨g, 0, none⟩) n n) ∧ W.heap.size ≤ g ∧ BI W' g n (fun d => ((m d : Nat) : Int)) ∧ Nm n 2 (pt f) m ∧ Ext W W' := by
  obtain ⟨u0, u1, -, ul⟩ := two hb
  refine names_any n 2 f (pt f) (fun i => if i = 0 then 30 else 33) (fun i => if i = 0 then #[.agg #[NV]] else #[]) NV _ W hN (by have := hM.le; omega) (by omega) ⟨_, 2, rfl, Nat.le_refl _, by omega, fun _ => ⟨b, 0, rfl, ul, fun j hj => ?_⟩⟩ (fun i _ d hd => hM.pt_lt i hd) (fun i _ => ?_) (fun i _ X hX d hd => ?_)
  · rcases (show j = 0 ∨ j = 1 by omega) with rfl | rfl
    · exact u0
    · exact u1
  · by_cases e : i = 0
    · rw [if_pos e]; exact call30
    · rw [if_neg e]; exact call33
  · by_cases e : i = 0
    · rw [if_pos e, if_pos e]
      unfold pt
      rw [if_pos e]
      refine (turn_any n f NV d X (hN.ext hX) hd).mono ?_
      rintro e w ⟨rfl, h⟩
      exact ⟨by rw [hM.tn_eq hd], h⟩
    · rw [if_neg e, if_neg e]
      unfold pt
      rw [if_neg e]
      refine (opposite_any d X (by have := hM.le; omega)).mono ?_
      rintro e w ⟨rfl, rfl⟩
      exact ⟨rfl, Ext.refl _⟩

set_option maxHeartbeats 4000000 in
set_option maxRecDepth 100000 in
theorem different_any (n : Nat) (m : Nat → Nat) (NV : Value) (W : World) (hN : Il W NV n (fun d => ((m d : Nat) : Int))) (hn : n ≤ 1000) :
    Calls Try.prog 34 #[NV] W fun e W' => e = .returned (.int .i64 (rank m n : Nat)) ∧ Ext W W' := by
  have HN := Lib.hid hN
  obtain ⟨A, c, rfl, hac, hcm, -⟩ := hN
  go_enter Try.func34, Try.ntmps34
  go_wp2_with fail
  go_loopw [3, 8] (fun t i wr => ∃ k : Nat, i = .int .i64 k ∧ k ≤ n ∧ t = .int .i64 (rank m k : Nat) ∧ Hid (Ext W wr)) (fun _ i _ => n - (intOf i).toNat)
  case atStart => exact ⟨0, rfl, Nat.zero_le _, rfl, Lib.hid (Ext.refl _)⟩
  case round =>
    obtain ⟨k, rfl, hk, rfl, hin⟩ := hrel
    obtain ⟨r, hr⟩ : ∃ r, r = rank m k := ⟨_, rfl⟩
    have hr2 : r ≤ 1000 := by have := rank_le m k; omega
    rw [← hr]
    have HR := Lib.hid hr
    clear hr
    by_cases hlt : k < n
    · obtain ⟨b1, o1, rfl, -, e1⟩ := Vl.at HN.out hin.out hlt
      dsimp only at e1
      obtain ⟨z, hz⟩ : ∃ z, z = m k := ⟨_, rfl⟩
      rw [← hz] at e1
      have HZ := Lib.hid hz
      clear hz
      by_cases h : z = k
      · subst h
        have hbe : ((z : Int) == (z : Int)) = true := by simp
        go_wp2
        go_roundw
        case rel => exact ⟨z + 1, by go_num, by omega, by rw [show rank m (z + 1) = r + 1 by unfold rank; rw [if_pos HZ.out.symm, HR.out]]; simp, Lib.hid hin.out⟩
        case measure => simp [intOf]; omega
      · have hbe : ((z : Int) == (k : Int)) = false := by simp; omega
        go_wp2
        go_roundw
        case rel => exact ⟨k + 1, by go_num, by omega, by rw [show rank m (k + 1) = r by conv => lhs; unfold rank
                                                                                         rw [if_neg (fun e => h (by rw [HZ.out]; exact e)), Nat.add_zero, HR.out]], Lib.hid hin.out⟩
        case measure => simp [intOf]; omega
    · obtain rfl : k = n := by omega
      go_wp2
      go_ret
      exact ⟨by rw [← HR.out]; rfl, hin.out⟩

set_option maxHeartbeats 4000000 in
set_option maxRecDepth 100000 in
theorem euler_any (n : Nat) (f : Nat → Int) (NV : Value) (W : World) (hN : Il W NV n f) :
    Calls Try.prog 11 #[.agg #[NV]] W fun e W' => ∃ v q w p er : Int, e = .returned (.tuple #[.int .i64 v, .int .i64 q, .int .i64 w, .int .i64 p, .int .i64 er]) ∧ Ext W W' ∧
      ((vMap n f = false ∧ v = 0 ∧ q = 0 ∧ w = 0 ∧ p = 0 ∧ er = 2) ∨ (vMap n f = true ∧ er = 0 ∧ q = ((n / 2 : Nat) : Int) ∧ ∃ mv mf mp, Nm n 1 (fun _ => tn f) mv ∧ Nm n 1 (fun _ => fl f) mf ∧ Nm n 2 (pt f) mp ∧ v = (rank mv n : Nat) ∧ w = (rank mf n : Nat) ∧ p = (rank mp n : Nat))) := by
  have HN := Lib.hid hN
  obtain ⟨A, c, rfl, hac, hcm, -⟩ := hN
  go_enter Try.func11, Try.ntmps11
  go_upto_region 1 with fail
  have bb := al1 W (.cells #[.slice A n c] 28)
  obtain ⟨m0, -, mz⟩ := uno (heap_alloc_new W (.cells #[.slice A n c] 28))
  generalize W.alloc (.cells #[.slice A n c] 28) = W1 at *
  have HB : Hid (Ext W W1) := Lib.hid bb
  have HM := Lib.hid m0
  clear bb
  go_wp2_with fail
  refine (validS_any n f _ _ (HN.out.ext HB.out)).mono ?_
  rintro e w1 ⟨rfl, hx⟩
  have HX : Hid (Ext W1 w1) := Lib.hid hx
  clear m0
  have m0 := keepAt hx mz HM.out
  clear hx
  cases hv : vMap n f
  · have HV := Lib.hid hv; clear hv
    go_wp2
    refine bodyPost_ret (v := .tuple #[.int .i64 0, .int .i64 0, .int .i64 0, .int .i64 0, .int .i64 2]) (by simp [results, Try.results11, go_sem]) rfl ⟨0, 0, 0, 0, 2, rfl, HB.out.trans HX.out, .inl ⟨HV.out, rfl, rfl, rfl, rfl, rfl⟩⟩
  · have hM := vMap_mp hv
    have hn : n ≤ 80 := hM.le
    have HV := Lib.hid (And.intro hv hM)
    clear hv hM
    go_wp2_with fail
    have h1 := heap_alloc_new w1 (.cells #[.func (.func 30) #[.agg #[.slice A n c]] #[]] 50)
    have e1 : Ext w1 (w1.alloc (.cells #[.func (.func 30) #[.agg #[.slice A n c]] #[]] 50)) := Ext.alc (Ext.refl _) _
    refine (names_turn n f (.slice A n c) w1.heap.size _ (HN.out.ext (HB.out.trans (HX.out.trans e1))) HV.out.2 h1).mono ?_
    rintro e w2 ⟨k1, g1, rfl, -, hb, hnm, hx⟩
    have HB1 := Lib.hid hb
    replace HX : Hid (Ext W1 w2) := Lib.hid (HX.out.trans (e1.trans hx))
    have HNM1 := Lib.hid hnm
    clear h1 e1 hb hx hnm m0
    go_wp2_with fail
    refine (different_any n k1 _ _ (HB1.out.il (by omega)) (by omega)).mono ?_
    rintro e w2' ⟨rfl, hx⟩
    obtain ⟨r1, hr⟩ : ∃ r, r = rank k1 n := ⟨_, rfl⟩
    rw [← hr]
    have HR1 := Lib.hid (And.intro hr HNM1.out)
    replace HX : Hid (Ext W1 w2') := Lib.hid (HX.out.trans hx)
    have m0 := keepAt HX.out mz HM.out
    clear hx hr HB1 HNM1
    go_wp2_with fail
    have h2 := heap_alloc_new w2' (.cells #[.func (.func 32) #[.agg #[.slice A n c]] #[]] 50)
    have e2 : Ext w2' (w2'.alloc (.cells #[.func (.func 32) #[.agg #[.slice A n c]] #[]] 50)) := Ext.alc (Ext.refl _) _
    refine (names_follow n f (.slice A n c) w2'.heap.size _ (HN.out.ext (HB.out.trans (HX.out.trans e2))) HV.out.2 h2).mono ?_
    rintro e w3 ⟨k2, g2, rfl, -, hb, hnm, hx⟩
    have HB2 := Lib.hid hb
    replace HX : Hid (Ext W1 w3) := Lib.hid (HX.out.trans (e2.trans hx))
    have HNM2 := Lib.hid hnm
    clear h2 e2 hb hx hnm m0
    go_wp2_with fail
    refine (different_any n k2 _ _ (HB2.out.il (by omega)) (by omega)).mono ?_
    rintro e w3' ⟨rfl, hx⟩
    obtain ⟨r2, hr⟩ : ∃ r, r = rank k2 n := ⟨_, rfl⟩
    rw [← hr]
    have HR2 := Lib.hid (And.intro hr HNM2.out)
    replace HX : Hid (Ext W1 w3') := Lib.hid (HX.out.trans hx)
    have m0 := keepAt HX.out mz HM.out
    clear hx hr HB2 HNM2
    go_wp2_with fail
    have h3 := heap_alloc_new w3' (.cells #[.func (.func 30) #[.agg #[.slice A n c]] #[], .func (.func 33) #[] #[]] 50)
    have e3 : Ext w3' (w3'.alloc (.cells #[.func (.func 30) #[.agg #[.slice A n c]] #[], .func (.func 33) #[] #[]] 50)) := Ext.alc (Ext.refl _) _
    refine (names_part n f (.slice A n c) w3'.heap.size _ (HN.out.ext (HB.out.trans (HX.out.trans e3))) HV.out.2 h3).mono ?_
    rintro e w4 ⟨k3, g3, rfl, -, hb, hnm, hx⟩
    have HB3 := Lib.hid hb
    replace HX : Hid (Ext W1 w4) := Lib.hid (HX.out.trans (e3.trans hx))
    have HNM3 := Lib.hid hnm
    clear h3 e3 hb hx hnm m0
    go_wp2_with fail
    refine (different_any n k3 _ _ (HB3.out.il (by omega)) (by omega)).mono ?_
    rintro e w4' ⟨rfl, hx⟩
    obtain ⟨r3, hr⟩ : ∃ r, r = rank k3 n := ⟨_, rfl⟩
    rw [← hr]
    have HR3 := Lib.hid (And.intro hr HNM3.out)
    replace HX : Hid (Ext W1 w4') := Lib.hid (HX.out.trans hx)
    have m0 := keepAt HX.out mz HM.out
    clear hx hr HB3 HNM3
    go_wp2_with fail
    refine (edges_any n f _ _ (HN.out.ext (HB.out.trans HX.out)) (by omega)).mono ?_
    rintro e w9 ⟨rfl, hx⟩
    obtain ⟨q, hq⟩ : ∃ q, q = n / 2 := ⟨_, rfl⟩
    rw [← hq]
    have HF := Lib.hid (And.intro (HB.out.trans (HX.out.trans hx)) hq)
    clear hx hq m0
    go_wp2
    refine bodyPost_ret (v := .tuple #[.int .i64 (r1 : Nat), .int .i64 (q : Nat), .int .i64 (r2 : Nat), .int .i64 (r3 : Nat), .int .i64 0]) (by simp [results, Try.results11, go_sem]) rfl ⟨r1, q, r2, r3, 0, rfl, HF.out.1, .inr ⟨HV.out.1, rfl, by rw [HF.out.2], k1, k2, k3, HR1.out.2, HR2.out.2, HR3.out.2, by rw [HR1.out.1], by rw [HR2.out.1], by rw [HR3.out.1]⟩⟩
end Go.Proofs.Ytijhbmdbnnmogaa.G
namespace Go.Proofs.Ytijhbmdbnnmogaa.G
open Go.RowKit

set_option maxHeartbeats 4000000 in
set_option maxRecDepth 100000 in
theorem gedges_any (V : Int) (n : Nat) (s : Nat → Int) (SV : Value) (W : World) (hS : Il W SV n s) (hn : n ≤ 1000) :
    Calls Try.prog 55 #[.agg #[.int .i64 V, SV]] W fun e W' => e = .returned (.int .i64 ((n / 2 : Nat) : Int)) ∧ Ext W W' := by
  obtain ⟨A, c, rfl, hac, hcm, -⟩ := hS
  obtain ⟨q, hq⟩ : ∃ q, q = n / 2 := ⟨_, rfl⟩
  have hd : ((n : Int)).tdiv 2 = (q : Int) := by rw [hq]; exact (Int.ofNat_tdiv n 2).symm
  rw [← hq]
  have hq2 : q ≤ 1000 := by omega
  clear hq
  go_enter Try.func55, Try.ntmps55
  go_upto_region 1 with fail
  have bb := al1 W (.cells #[.int .i64 V, .slice A n c] 67)
  obtain ⟨m0, m1, -, -⟩ := two (heap_alloc_new W (.cells #[.int .i64 V, .slice A n c] 67))
  generalize W.alloc (.cells #[.int .i64 V, .slice A n c] 67) = W1 at *
  have HB : Hid (Ext W W1) := Lib.hid bb
  clear bb
  go_wp2
  go_ret
  exact ⟨rfl, HB.out⟩

set_option maxHeartbeats 4000000 in
set_option maxRecDepth 100000 in
theorem ends_any (V : Int) (n : Nat) (s : Nat → Int) (e : Nat) (SV : Value) (W : World) (hS : Il W SV n s) (hn : n ≤ 1000) (he : 2 * e + 1 < n) :
    Calls Try.prog 65 #[.agg #[.int .i64 V, SV], .int .i64 e] W fun r W' => r = .returned (.tuple #[.int .i64 (s (2 * e)), .int .i64 (s (2 * e + 1))]) ∧ Ext W W' := by
  have HS := Lib.hid hS
  obtain ⟨A, c, rfl, hac, hcm, -⟩ := hS
  obtain ⟨q, hq⟩ : ∃ q, q = 2 * e := ⟨_, rfl⟩
  have hm : (2 : Int) * (e : Int) = (q : Int) := by omega
  rw [← hq] at he ⊢
  have hq1 : (q : Int) + 1 = ((q + 1 : Nat) : Int) := by omega
  obtain ⟨q', hq'⟩ : ∃ q', q' = q + 1 := ⟨_, rfl⟩
  rw [← hq'] at he hq1 ⊢
  have hqq : q < n := by omega
  clear hq hq'
  go_enter Try.func65, Try.ntmps65
  go_upto_region 1 with fail
  have bb := al1 W (.cells #[.int .i64 V, .slice A n c] 67)
  obtain ⟨m0, m1, -, -⟩ := two (heap_alloc_new W (.cells #[.int .i64 V, .slice A n c] 67))
  generalize W.alloc (.cells #[.int .i64 V, .slice A n c] 67) = W1 at *
  have HB : Hid (Ext W W1) := Lib.hid bb
  obtain ⟨b1, o1, rfl, -, e1⟩ := Vl.at HS.out bb hqq
  obtain ⟨b2, o2, e3, -, e2⟩ := Vl.at HS.out bb he
  injection e3 with e3; injection e3 with e3 e4
  subst e3 e4
  have d0 : W1.drew.cell? ⟨W.heap.size, 1, none⟩ = some (.slice (some ⟨b1, o1, none⟩) n c) := m1
  have d1 : W1.drew.cell? ⟨b1, o1 + q, none⟩ = some (.int .i64 (s q)) := e1
  have d2 : W1.drew.cell? ⟨b1, o1 + q', none⟩ = some (.int .i64 (s q')) := e2
  have HB2 : Hid (Ext W W1.drew) := Lib.hid HB.out.drw
  clear m0 m1 e1 e2 bb
  go_region
  clear d0 d1 d2
  go_wp2
  refine bodyPost_ret (v := .tuple #[.int .i64 (s q), .int .i64 (s q')]) (by simp [results, Try.results65, go_sem]) rfl ⟨rfl, HB2.out⟩
end Go.Proofs.Ytijhbmdbnnmogaa.G
namespace Go.Proofs.Ytijhbmdbnnmogaa.G
open Go.RowKit

/-- m numbers put in from o on -/
def putI (x y : Nat → Int) (o m : Nat) (i : Nat) : Int := if o ≤ i ∧ i < o + m then y (i - o) else x i
set_option maxRecDepth 100000 in
theorem copy_bi (dT sT ty : TypeId) (hd : Try.prog.underlying dT = some (.slice 3)) (W : World) (g o dl dc b off sl sc n m : Nat) (x y : Nat → Int) (hg : BI W g n x)
    (hs : ∀ j, j < m → W.cell? ⟨b, off + j, none⟩ = some (.int .i64 (y j))) (hm : m = Nat.min sl dl) (hom : o + m ≤ n) :
    (Builtin.copy_ #[dT, sT] ty #[.slice (some ⟨g, o, none⟩) dl dc, .slice (some ⟨b, off, none⟩) sl sc]).run Try.prog W = .ok (.int .i64 m) (W.setRow g (Array.ofFn fun i : Fin n => .int .i64 (putI x y o m i.1))) := by
  have hsz : (Try.prog.info? 3).map (·.size) = some 1 := by kernel_rfl
  have hr := run_copy_row (P := Try.prog) W dT sT ty 3 g o dl dc ⟨b, off, none⟩ sl sc _ 3 ((List.range m).map fun j => Value.int .i64 (y j)) hd hsz hg (by simp [hm]) (fun j v hj => by
    have hjm : j < m := by have := (List.getElem?_eq_some_iff.1 hj).1; simpa using this
    have e : (⟨b, off, none⟩ : Addr).add j = ⟨b, off + j, none⟩ := by unfold Addr.add; split <;> simp_all
    rw [e, hs j hjm]
    simp [hjm] at hj
    rw [hj]) (by simp; omega) (fun v hv => by
    simp at hv
    obtain ⟨a, -, rfl⟩ := hv
    rfl)
  rw [hr]
  have e1 : ((List.range m).map fun j => Value.int .i64 (y j)).length = m := by simp
  rw [e1]
  have e2 : ((Array.ofFn fun i : Fin n => Value.int .i64 (x i.1)).toList.take o ++ ((List.range m).map fun j => Value.int .i64 (y j)) ++ (Array.ofFn fun i : Fin n => Value.int .i64 (x i.1)).toList.drop (o + m)).toArray = Array.ofFn fun i : Fin n => Value.int .i64 (putI x y o m i.1) := by
    apply Array.ext
    · simp; omega
    · intro i h1 h2
      simp only [Array.size_ofFn] at h2
      simp only [List.getElem_toArray, Array.getElem_ofFn]
      unfold putI
      by_cases h3 : i < o
      · rw [if_neg (by omega), List.getElem_append_left (by simp; omega), List.getElem_append_left (by simp; omega)]
        simp
      · by_cases h4 : i < o + m
        · rw [if_pos (by omega), List.getElem_append_left (by simp; omega), List.getElem_append_right (by simp; omega)]
          simp
          congr 1
          omega
        · rw [if_neg (by omega), List.getElem_append_right (by simp; omega)]
          simp
          congr 1
          omega
  rw [e2]
  rfl
theorem BI.row {W : World} {g n : Nat} {x y : Nat → Int} (h : BI W g n x) : BI (W.setRow g (Array.ofFn fun i : Fin n => .int .i64 (y i.1))) g n y := setRow_heap W g _ _ 3 (0, 0) h
theorem Ext.row {X Y : World} (h : Ext X Y) {g : Nat} (hg : X.heap.size ≤ g) (cs : Array Value) : Ext X (Y.setRow g cs) :=
  ⟨h.os, h.tape, h.output, by rw [setRow_size]; exact h.size, fun k hk => (setRow_other Y g k cs (by omega)).trans (h.block k hk)⟩

theorem mul_one_any (N : Nat) (hN : N ≤ 1000) (w : World) : Calls Try.prog 66 #[.int .u64 1, .int .u64 (N : Int)] w fun e w' => e = .returned (.tuple #[.int .u64 0, .int .u64 (N : Int)]) ∧ w' = w := by
  have h := Try.bits_Mul 1 N (by omega) (by omega) w
  have e1 : 1 * N / 18446744073709551616 = 0 := by omega
  have e2 : 1 * N % 18446744073709551616 = N := by omega
  rw [e1, e2] at h
  exact h

set_option maxHeartbeats 4000000 in
set_option maxRecDepth 100000 in
theorem repeat_any (b off c N : Nat) (z : Int) (W : World) (hz : W.cell? ⟨b, off, none⟩ = some (.int .i64 z)) (hb : b < W.heap.size) (hN : N ≤ 1000) :
    Calls Try.prog 54 #[.slice (some ⟨b, off, none⟩) 1 c, .int .i64 N] W fun e W' => ∃ g, e = .returned (.slice (some ⟨g, 0, none⟩) N N) ∧ W.heap.size ≤ g ∧ BI W' g N (fun _ => z) ∧ Ext W W' := by
  have hm1 : ∀ w, (Instr.makeSlice 22 (.int .i64 (N : Int)) (.int .i64 (N : Int))).run Try.prog w = .ok (.slice (some ⟨w.heap.size, 0, none⟩) N N) (w.alloc (.cells (Array.ofFn fun _ : Fin N => .int .i64 0) 3)) := fun w => make_one 22 3 _ 8 Try.underlying22 info3 rfl (by omega) N (by omega) w
  go_enter Try.func54, Try.ntmps54
  go_wp2_with fail
  refine (mul_one_any N hN _).mono ?_
  rintro e w1 ⟨rfl, rfl⟩
  go_upto_region 7 with fail
  have y1 : BI (w1.alloc (.cells (Array.ofFn fun _ : Fin N => Value.int .i64 0) 3)) w1.heap.size N (fun _ => 0) := heap_alloc_new w1 _
  have e1 : Ext w1 (w1.alloc (.cells (Array.ofFn fun _ : Fin N => Value.int .i64 0) 3)) := Ext.alc (Ext.refl _) _
  obtain ⟨g, hg⟩ : ∃ g, g = w1.heap.size := ⟨_, rfl⟩
  rw [← hg] at y1 ⊢
  have hgW : w1.heap.size ≤ g := by omega
  have z1 := keepAt e1 hb hz
  have Y1 := Lib.hid (And.intro y1 e1)
  clear y1 e1 hg
  generalize w1.alloc (.cells (Array.ofFn fun _ : Fin N => Value.int .i64 0) 3) = w2 at *
  obtain ⟨m, hm⟩ : ∃ m, m = Nat.min 1 N := ⟨_, rfl⟩
  have hcp : ∀ ty, (Builtin.copy_ #[22, 22] ty #[.slice (some ⟨g, 0, none⟩) N N, .slice (some ⟨b, off, none⟩) 1 c]).run Try.prog w2 = .ok (.int .i64 m) (w2.setRow g (Array.ofFn fun i : Fin N => .int .i64 (putI (fun _ => 0) (fun _ => z) 0 m i.1))) := fun ty =>
    copy_bi 22 22 ty Try.underlying22 w2 g 0 N N b off 1 c N m _ _ Y1.out.1 (fun j hj => by
      have hmin : m ≤ 1 := by rw [hm]; exact Nat.min_le_left _ _
      obtain rfl : j = 0 := by omega
      exact z1) hm (by rw [hm, Nat.zero_add]; exact Nat.min_le_right _ _)
  have hmN : m ≤ N := by rw [hm]; exact Nat.min_le_right _ _
  have hm01 : N = 0 ∨ m = 1 := by
    rcases Nat.eq_zero_or_pos N with h | h
    · exact .inl h
    · right; rw [hm]; exact Nat.min_eq_left h
  have HM := Lib.hid hm01
  clear hm hm01
  go_upto_region 8 with fail
  clear hcp z1 hz hb
  have r1 : BI (w2.setRow g (Array.ofFn fun i : Fin N => .int .i64 (putI (fun _ => 0) (fun _ => z) 0 m i.1))) g N (putI (fun _ => 0) (fun _ => z) 0 m) := Y1.out.1.row
  have r2 : Ext w1 (w2.setRow g (Array.ofFn fun i : Fin N => .int .i64 (putI (fun _ => 0) (fun _ => z) 0 m i.1))) := Y1.out.2.row hgW _
  have HR := Lib.hid (And.intro r1 r2)
  clear r1 r2 Y1
  generalize w2.setRow g (Array.ofFn fun i : Fin N => Value.int .i64 (putI (fun _ => 0) (fun _ => z) 0 m i.1)) = w3 at *
  go_loopw [8] (fun i wr => ∃ k : Nat, i = .int .i64 k ∧ k ≤ N ∧ Hid ((N = 0 ∨ 1 ≤ k) ∧ (∃ x, BI wr g N x ∧ ∀ v, v < k → x v = z) ∧ Ext w1 wr)) (fun i _ => N - (intOf i).toNat)
  case atStart => exact ⟨m, rfl, hmN, Lib.hid ⟨HM.out.imp id (fun h => by omega), ⟨_, HR.out.1, fun v hv => by unfold putI; rw [if_pos (by omega)]⟩, HR.out.2⟩⟩
  case round =>
    clear HR HM
    obtain ⟨k, rfl, hk, hin⟩ := hrel
    obtain ⟨wo, rfl⟩ : ∃ w, w = wr := ⟨_, rfl⟩
    by_cases hlt : k < N
    · obtain ⟨x, hx, hxz⟩ := hin.out.2.1
      have hk1 : 1 ≤ k := by rcases hin.out.1 with h | h <;> omega
      obtain ⟨m', hm'⟩ : ∃ m', m' = Nat.min k (N - k) := ⟨_, rfl⟩
      have hm1' : m' ≤ k := by rw [hm']; exact Nat.min_le_left _ _
      have hm2' : m' ≤ N - k := by rw [hm']; exact Nat.min_le_right _ _
      have hm3' : 1 ≤ m' := by rw [hm']; exact Nat.le_min.2 ⟨hk1, by omega⟩
      have hx2 : BI wo.drew g N x := Bk.drew hx
      have hcp : ∀ ty, (Builtin.copy_ #[22, 22] ty #[.slice (some ⟨g, k, none⟩) (N - k) (N - k), .slice (some ⟨g, 0, none⟩) k N]).run Try.prog wo.drew = .ok (.int .i64 m') (wo.drew.setRow g (Array.ofFn fun i : Fin N => .int .i64 (putI x x k m' i.1))) := fun ty =>
        copy_bi 22 22 ty Try.underlying22 wo.drew g k (N - k) (N - k) g 0 k N N m' x x hx2 (fun j hj => by rw [Nat.zero_add]; exact Bk.cell hx2 (by omega)) hm' (by omega)
      have hr1 : BI (wo.drew.setRow g (Array.ofFn fun i : Fin N => .int .i64 (putI x x k m' i.1))) g N (putI x x k m') := hx2.row
      have hr2 : Ext w1 (wo.drew.setRow g (Array.ofFn fun i : Fin N => .int .i64 (putI x x k m' i.1))) := (hin.out.2.2.drw).row hgW _
      have HR := Lib.hid (And.intro hr1 hr2)
      have HX := Lib.hid hxz
      have hsub : ((N : Int) - (k : Int)) = ((N - k : Nat) : Int) := by omega
      have hNk : ¬ N = k := by omega
      have HWO : Hid (Ext w1 wo.drew) := Lib.hid hin.out.2.2.drw
      clear hr1 hr2 hx hx2 hin hm' hxz
      go_upto_region 9 with fail
      refine wp_region_noPanic ?_
      refine wp_split (S := fun X => Ext w1 X) 8 (by kernel_rfl) (by kernel_rfl) (HWO.out) ?_
      simp only [List.take_succ_cons, List.take_zero, List.drop_succ_cons, List.drop_zero]
      refine take_at 0 (some 38) (.int .i64 k) rfl rfl (by kernel_rfl) (by kernel_rfl) (by kernel_rfl) (fun _ _ _ h => h) (Or.inl ⟨by rfl, fun w' hSw => ?_⟩) (HWO.out) ?_
      · skip
        try clear hSw
        go_simp
        all_goals (with_reducible rfl)
      try simp only [Act.put, List.setIfInBounds_toArray, List.set_cons_zero, List.set_cons_succ]
      refine take_at 1 (some 39) (.slice (some ⟨g, 0, none⟩) N N) rfl rfl (by kernel_rfl) (by kernel_rfl) (by kernel_rfl) (fun _ _ _ h => h) (Or.inl ⟨by rfl, fun w' hSw => ?_⟩) (HWO.out) ?_
      · skip
        try clear hSw
        go_simp
        all_goals (with_reducible rfl)
      try simp only [Act.put, List.setIfInBounds_toArray, List.set_cons_zero, List.set_cons_succ]
      refine take_at 2 (some 40) (.int .i64 k) rfl rfl (by kernel_rfl) (by kernel_rfl) (by kernel_rfl) (fun _ _ _ h => h) (Or.inl ⟨by rfl, fun w' hSw => ?_⟩) (HWO.out) ?_
      · skip
        try clear hSw
        go_simp
        all_goals (with_reducible rfl)
      try simp only [Act.put, List.setIfInBounds_toArray, List.set_cons_zero, List.set_cons_succ]
      refine take_at 3 (some 41) (.slice (some ⟨g, k, none⟩) (N - k) (N - k)) rfl rfl (by kernel_rfl) (by kernel_rfl) (by kernel_rfl) (fun _ _ _ h => h) (Or.inl ⟨by rfl, fun w' hSw => ?_⟩) (HWO.out) ?_
      · skip
        try clear hSw
        go_simp
        all_goals (with_reducible rfl)
      try simp only [Act.put, List.setIfInBounds_toArray, List.set_cons_zero, List.set_cons_succ]
      refine take_at 4 (some 42) (.slice (some ⟨g, 0, none⟩) N N) rfl rfl (by kernel_rfl) (by kernel_rfl) (by kernel_rfl) (fun _ _ _ h => h) (Or.inl ⟨by rfl, fun w' hSw => ?_⟩) (HWO.out) ?_
      · skip
        try clear hSw
        go_simp
        all_goals (with_reducible rfl)
      try simp only [Act.put, List.setIfInBounds_toArray, List.set_cons_zero, List.set_cons_succ]
      refine take_at 5 (some 43) (.int .i64 k) rfl rfl (by kernel_rfl) (by kernel_rfl) (by kernel_rfl) (fun _ _ _ h => h) (Or.inl ⟨by rfl, fun w' hSw => ?_⟩) (HWO.out) ?_
      · skip
        try clear hSw
        go_simp
        all_goals (with_reducible rfl)
      try simp only [Act.put, List.setIfInBounds_toArray, List.set_cons_zero, List.set_cons_succ]
      refine take_at 6 (some 44) (.slice (some ⟨g, 0, none⟩) k N) rfl rfl (by kernel_rfl) (by kernel_rfl) (by kernel_rfl) (fun _ _ _ h => h) (Or.inl ⟨by rfl, fun w' hSw => ?_⟩) (HWO.out) ?_
      · skip
        try clear hSw
        go_simp
        all_goals (with_reducible rfl)
      try simp only [Act.put, List.setIfInBounds_toArray, List.set_cons_zero, List.set_cons_succ]
      refine wpAnyH_ready (rs := [7]) (by kernel_rfl) (by simp) ?_
      refine AllReadyH.cons rfl (fun K hK => ?_) AllReadyH.nil
      go_simp
      refine hK.out _ _ ?_ (fun _ => ?_)
      · exact HWO.out.row hgW _
      clear hK K
      try simp only [Act.put, List.setIfInBounds_toArray, List.set_cons_zero, List.set_cons_succ]
      refine wpAnyH_done (by kernel_rfl) ?_ _
      refine cut_normal ?_
      clear hcp
      generalize wo.drew.setRow g (Array.ofFn fun i : Fin N => Value.int .i64 (putI x x k m' i.1)) = w5 at *
      go_wp2_with fail
      refine NoPanic.normal ?_
      go_wp2
      go_roundw
      case rel =>
        refine ⟨k + m', by go_num, by omega, Lib.hid ⟨.inr (by omega), ⟨_, HR.out.1, fun v hv => ?_⟩, HR.out.2⟩⟩
        unfold putI
        by_cases e : v < k
        · rw [if_neg (by omega)]; exact HX.out v e
        · rw [if_pos (by omega)]; exact HX.out _ (by omega)
      case measure => simp [intOf]; omega
    · obtain rfl : k = N := by omega
      have HF := Lib.hid hin.out.2
      clear hin
      go_wp2
      go_ret
      obtain ⟨⟨x, hx, hxz⟩, he⟩ := HF.out
      exact ⟨g, rfl, hgW, Bk.congr hx (fun v hv => by rw [hxz v hv]), he⟩
end Go.Proofs.Ytijhbmdbnnmogaa.G
