/- Walks: isNet, filled. -/
import Derived.Test.YtilcbbdmenknfaaC4
import Derived.Test.YtilcbbdmenknfaaC8
namespace Go.Proofs.Ytilcbbdmenknfaa
open Go.RowKit

/-- x lies between -/
def bw (x lo hi : Int) : Bool := decide (lo ≤ x) && decide (x ≤ hi)
theorem bw_iff {x lo hi : Int} : bw x lo hi = true ↔ lo ≤ x ∧ x ≤ hi := by unfold bw; simp
theorem isBetween_bw (x lo hi : Int) (W : World) : Calls Try.prog 63 #[.int .i64 x, .int .i64 lo, .int .i64 hi] W fun e W' => e = .returned (.bool (bw x lo hi)) ∧ W = W' := isBetween_any x lo hi W
/-- is arc k right? -/
def okA (N : Int) (a : Ar) (k : Nat) : Bool := bw (a.f k) 0 (N - 1) && bw (a.t k) 0 (N - 1) && !decide (a.f k = a.t k) && bw (a.c k) 0 1000000
/-- is it a net? -/
def vNet (N : Int) (a : Ar) : Bool := bw N 2 40 && decide (a.n ≤ 160) && (List.range a.n).all (okA N a)
theorem vNet_iff {N : Int} {a : Ar} : vNet N a = true ↔ (2 ≤ N ∧ N ≤ 40) ∧ a.n ≤ 160 ∧ ∀ k, k < a.n → okA N a k = true := by
  unfold vNet
  rw [Bool.and_eq_true, Bool.and_eq_true, bw_iff, decide_eq_true_iff, List.all_eq_true]
  constructor
  · rintro ⟨⟨h1, h2⟩, h3⟩; exact ⟨h1, h2, fun k hk => h3 k (List.mem_range.2 hk)⟩
  · rintro ⟨h1, h2, h3⟩; exact ⟨⟨h1, h2⟩, fun k hk => h3 k (List.mem_range.1 hk)⟩
theorem vNet_ok {N : Int} {a : Ar} (h : vNet N a = true) : ∃ m : Nat, N = m ∧ 2 ≤ m ∧ m ≤ 40 ∧ a.n ≤ 160 ∧ a.Ok m 1000000 := by
  obtain ⟨⟨h1, h2⟩, h3, h4⟩ := vNet_iff.1 h
  obtain ⟨m, rfl⟩ : ∃ m : Nat, N = m := ⟨N.toNat, by omega⟩
  have h5 : ∀ k, k < a.n → (0 ≤ a.f k ∧ a.f k ≤ (m : Int) - 1) ∧ (0 ≤ a.t k ∧ a.t k ≤ (m : Int) - 1) ∧ a.f k ≠ a.t k ∧ 0 ≤ a.c k ∧ a.c k ≤ 1000000 := by
    intro k hk
    have := h4 k hk
    unfold okA at this
    simp only [Bool.and_eq_true, bw_iff, Bool.not_eq_true', decide_eq_false_iff_not] at this
    exact ⟨this.1.1.1, this.1.1.2, this.1.2, this.2⟩
  refine ⟨m, rfl, by omega, by omega, h3, ⟨fun k hk => (h5 k hk).1.1, fun k hk => ?_, fun k hk => (h5 k hk).2.1.1, fun k hk => ?_, fun k hk => (h5 k hk).2.2.1, fun k hk => (h5 k hk).2.2.2.1, fun k hk => (h5 k hk).2.2.2.2⟩⟩
  · have := (h5 k hk).1.2; omega
  · have := (h5 k hk).2.1.2; omega
theorem vNet_no {N : Int} {a : Ar} {k : Nat} (hk : k < a.n) (h : okA N a k = false) : vNet N a = false := by
  cases hv : vNet N a
  · rfl
  · rw [(vNet_iff.1 hv).2.2 k hk] at h; cases h

set_option maxHeartbeats 4000000 in
set_option maxRecDepth 100000 in
theorem isNet_any (N : Int) (a : Ar) (AV : Value) (W : World) (hA : Al W AV a) :
    Calls Try.prog 47 #[.agg #[.int .i64 N, AV]] W fun e W' => e = .returned (.bool (vNet N a)) ∧ Ext W W' := by
  have HA := Lib.hid hA
  obtain ⟨A, c, rfl, hac, hcm, -⟩ := hA
  obtain ⟨r, hr⟩ : ∃ r, r = vNet N a := ⟨_, rfl⟩
  rw [← hr]
  have HR := Lib.hid hr; clear hr
  have bb := al1 W (.cells #[.int .i64 N, .slice A a.n c] 30)
  go_enter Try.func47, Try.ntmps47
  go_wp2_with fail
  refine (isBetween_bw _ _ _ _).mono ?_
  rintro e w1 ⟨rfl, rfl⟩
  cases h1 : bw N 2 40
  · have hr : vNet N a = false := by unfold vNet; rw [h1]; rfl
    rw [← HR.out] at hr
    have HR2 := Lib.hid hr; clear hr HR h1
    go_wp2
    go_ret
    exact ⟨by rw [HR2.out]; rfl, bb⟩
  · obtain ⟨hN1, hN2⟩ := bw_iff.1 h1
    have H1 := Lib.hid h1; clear h1
    by_cases hn : a.n ≤ 160
    · go_wp2_with fail
      go_loopw [18] (fun i wr => ∃ k : Nat, i = .int .i64 k ∧ k ≤ a.n ∧ Hid ((∀ j, j < k → okA N a j = true) ∧ wr.cell? ⟨W.heap.size, 0, none⟩ = some (.int .i64 N) ∧ W.heap.size < wr.heap.size ∧ Ext W wr)) (fun i _ => a.n - (intOf i).toNat)
      case atStart => exact ⟨0, rfl, Nat.zero_le _, Lib.hid ⟨fun j hj => by omega, by rw [World.cell?_alloc_new]; rfl, by simp, bb⟩⟩
      case round =>
        clear bb
        obtain ⟨k, rfl, hk, hin⟩ := hrel
        by_cases hlt : k < a.n
        · obtain ⟨b, off, rfl, d1, d2, d3⟩ := HA.out.arc hin.out.2.2.2 hlt
          have m0 := hin.out.2.1
          have mz := hin.out.2.2.1
          obtain ⟨ok, hok⟩ : ∃ ok, ok = okA N a k := ⟨_, rfl⟩
          have hok2 := hok
          unfold okA at hok2
          obtain ⟨fk, hfk⟩ : ∃ x, x = a.f k := ⟨_, rfl⟩
          obtain ⟨tk, htk⟩ : ∃ x, x = a.t k := ⟨_, rfl⟩
          obtain ⟨ck, hck⟩ : ∃ x, x = a.c k := ⟨_, rfl⟩
          rw [← hfk, ← htk, ← hck] at hok2
          rw [← hfk] at d1; rw [← htk] at d2; rw [← hck] at d3
          have HOK := Lib.hid hok
          clear hfk htk hck hok
          go_wp2_with fail
          refine (isBetween_bw _ _ _ _).mono ?_
          rintro e w1 ⟨rfl, rfl⟩
          have hEX : Hid (Ext W (wr.alloc (.cells #[.int .i64 fk, .int .i64 tk, .int .i64 ck] 65))) := Lib.hid (hin.out.2.2.2.alc _)
          have hno : ok = false → r = false := fun h => by rw [HR.out]; exact vNet_no hlt (by rw [← HOK.out]; exact h)
          have HNO := Lib.hid hno; clear hno
          cases h1 : bw fk 0 (N - 1)
          · rw [h1] at hok2
            have hr := Lib.hid (HNO.out (by rw [hok2]; rfl))
            clear h1 hok2
            go_wp2
            go_ret
            exact ⟨by rw [hr.out]; rfl, hEX.out⟩
          · rw [h1] at hok2
            clear h1
            go_wp2_with fail
            refine (isBetween_bw _ _ _ _).mono ?_
            rintro e w1 ⟨rfl, rfl⟩
            cases h2 : bw tk 0 (N - 1)
            · rw [h2] at hok2
              have hr := Lib.hid (HNO.out (by rw [hok2]; rfl))
              clear h2 hok2
              go_wp2
              go_ret
              exact ⟨by rw [hr.out]; rfl, hEX.out⟩
            · rw [h2] at hok2
              clear h2
              by_cases h3 : fk = tk
              · rw [decide_eq_true h3] at hok2
                subst h3
                have hr := Lib.hid (HNO.out (by rw [hok2]; rfl))
                clear hok2
                go_wp2
                go_ret
                exact ⟨by rw [hr.out]; rfl, hEX.out⟩
              · rw [decide_eq_false h3] at hok2
                go_wp2_with fail
                refine (isBetween_bw _ _ _ _).mono ?_
                rintro e w1 ⟨rfl, rfl⟩
                cases h4 : bw ck 0 1000000
                · rw [h4] at hok2
                  have hr := Lib.hid (HNO.out (by rw [hok2]; rfl))
                  clear h4 hok2
                  go_wp2
                  go_ret
                  exact ⟨by rw [hr.out]; rfl, hEX.out⟩
                · rw [h4] at hok2
                  have hok3 : okA N a k = true := by rw [← HOK.out, hok2]; rfl
                  have HK := Lib.hid hok3
                  have hcell : Hid ((wr.alloc (.cells #[.int .i64 fk, .int .i64 tk, .int .i64 ck] 65)).cell? ⟨W.heap.size, 0, none⟩ = some (.int .i64 N)) := Lib.hid (keepAt (Ext.alc (Ext.refl wr) _) mz m0)
                  clear h4 hok2 hok3
                  go_wp2
                  go_roundw
                  case rel =>
                    refine ⟨k + 1, by go_num, by omega, Lib.hid ⟨fun j hj => ?_, hcell.out, by simp; omega, hEX.out⟩⟩
                    by_cases e : j = k
                    · subst e; exact HK.out
                    · exact hin.out.1 j (by omega)
                  case measure => simp [intOf]; omega
        · obtain rfl : k = a.n := by omega
          have hr : r = true := by rw [HR.out]; exact vNet_iff.2 ⟨⟨hN1, hN2⟩, hn, hin.out.1⟩
          have HR2 := Lib.hid hr; clear hr
          go_wp2
          go_ret
          exact ⟨by rw [HR2.out]; rfl, hin.out.2.2.2⟩
    · have hr : vNet N a = false := by unfold vNet; rw [decide_eq_false hn, Bool.and_false, Bool.false_and]
      rw [← HR.out] at hr
      have HR2 := Lib.hid hr; clear hr HR
      have hn2 : ¬ (a.n : Int) ≤ 160 := by omega
      have hn3 : (160 : Int) < a.n := by omega
      go_wp2
      go_ret
      exact ⟨by rw [HR2.out]; rfl, bb⟩

set_option maxHeartbeats 4000000 in
set_option maxRecDepth 100000 in
theorem filled_any (N : Nat) (a : Ar) (AV : Value) (W : World) (hA : Al W AV a) (hO : a.Ok N 1000000) (hn : a.n ≤ 1000) (hN2 : 2 ≤ N) (hN : N ≤ 1000) :
    Calls Try.prog 48 #[.agg #[.int .i64 N, AV]] W fun e W' => ∃ (x : Nat → Int) (gl : Nat) (SV : Value), e = .returned (.agg #[.int .i64 (0 : Nat), .int .i64 (N - 1 : Nat), AV, SV, .slice (some ⟨gl, 0, none⟩) (2 * a.n) (2 * a.n)]) ∧
      W.heap.size ≤ gl ∧ BI W' gl (2 * a.n) x ∧ Full a.nw N 0 (N - 1) x ∧ Sl W' (W.heap.size + 1 + 1) SV N (stf a.nw a.n) ∧ Ext W W' := by
  have HA := Lib.hid hA; have HO := Lib.hid hO
  obtain ⟨A, c, rfl, hac, hcm, -⟩ := hA
  obtain ⟨t, ht⟩ : ∃ t, t = N - 1 := ⟨_, rfl⟩
  have ht2 : (N : Int) - 1 = (t : Int) := by omega
  rw [← ht]
  have HT := Lib.hid ht
  have htN : t < N := by omega
  have h0t : 0 ≠ t := by omega
  clear ht
  go_enter Try.func48, Try.ntmps48
  go_upto_region 1 with fail
  have bb := al2 W (.cells #[.int .i64 N, .slice A a.n c] 30) (.cells #[.int .i64 0, .int .i64 0, .slice none 0 0, .slice none 0 0, .slice none 0 0] 87)
  have m0 : ((W.alloc (.cells #[.int .i64 N, .slice A a.n c] 30)).alloc (.cells #[.int .i64 0, .int .i64 0, .slice none 0 0, .slice none 0 0, .slice none 0 0] 87)).cell? ⟨W.heap.size, 0, none⟩ = some (.int .i64 N) := by
    rw [World.cell?_alloc_past _ _ _ (by simp), World.cell?_alloc_new]; rfl
  have m1 : ((W.alloc (.cells #[.int .i64 N, .slice A a.n c] 30)).alloc (.cells #[.int .i64 0, .int .i64 0, .slice none 0 0, .slice none 0 0, .slice none 0 0] 87)).cell? ⟨W.heap.size, 1, none⟩ = some (.slice A a.n c) := by
    rw [World.cell?_alloc_past _ _ _ (by simp), World.cell?_alloc_new]; rfl
  have hh1 := heap_alloc_new (W.alloc (.cells #[.int .i64 N, .slice A a.n c] 30)) (.cells #[.int .i64 0, .int .i64 0, .slice none 0 0, .slice none 0 0, .slice none 0 0] 87)
  simp only [World.size_alloc] at hh1
  have hz : ((W.alloc (.cells #[.int .i64 N, .slice A a.n c] 30)).alloc (.cells #[.int .i64 0, .int .i64 0, .slice none 0 0, .slice none 0 0, .slice none 0 0] 87)).heap.size = W.heap.size + 1 + 1 := by simp
  generalize (W.alloc (.cells #[.int .i64 N, .slice A a.n c] 30)).alloc (.cells #[.int .i64 0, .int .i64 0, .slice none 0 0, .slice none 0 0, .slice none 0 0] 87) = W1 at *
  have HB : Hid (Ext W W1) := Lib.hid bb
  have HH1 := Lib.hid hh1
  have zlt : W.heap.size + 1 < W1.heap.size := (five hh1).2.2.2.2.2.2
  have HZ := Lib.hid hz
  clear bb hh1 hz
  go_wp2_with fail
  refine (newNetwork_any a N 0 t 1000000 _ _ (HA.out.ext HB.out) HO.out hn hN).mono ?_
  rintro e w1 ⟨SV, rfl, hsl, hx⟩
  have HSL := Lib.hid hsl
  have HX := Lib.hid hx
  clear m0 m1 hx
  have hz1 : W1.heap.size = W.heap.size + 1 + 1 := HZ.out
  rw [hz1] at HSL
  obtain ⟨gs, cs, rfl, -, -, -⟩ := hsl
  clear hz1
  go_wp2_with fail
  refine (fill_any a N 0 t _ 1000000 _ (.slice (some ⟨gs, 0, none⟩) N cs) (stf a.nw a.n) _ (HA.out.ext (HB.out.trans HX.out)) HO.out hn hN (by omega) HSL.out (stf_stp a.nw N) (by omega) htN h0t).mono ?_
  rintro e w2 ⟨x, gl, rfl, hgl, hbi, hfull, hx⟩
  have EX := Lib.hid (HX.out.trans hx)
  have HSL2 := Lib.hid (HSL.out.ext hx)
  have HBI := Lib.hid hbi; have HFULL := Lib.hid hfull
  obtain ⟨p0, p1, p2, p3, p4, p5, p6⟩ := five ((Below.block EX.out (W.heap.size + 1) zlt).trans HH1.out)
  have zw := HX.out.size
  clear hx hbi hfull HX HSL
  go_wp2
  refine bodyPost_ret (v := .agg #[.int .i64 0, .int .i64 t, .slice A a.n c, .slice (some ⟨gs, 0, none⟩) N cs, .slice (some ⟨gl, 0, none⟩) (2 * a.n) (2 * a.n)]) (by simp [results, Try.results48, go_sem, p0, p1, p2, p3, p4]) rfl ?_
  have hne1 : gl ≠ W.heap.size + 1 := by omega
  refine ⟨x, gl, _, rfl, by omega, Bk.far (Bk.far (Bk.far (Bk.far (Bk.far HBI.out hne1 _) hne1 _) hne1 _) hne1 _) hne1 _, HFULL.out, ?_, (((((HB.out.trans EX.out).sc (by omega)).sc (by omega)).sc (by omega)).sc (by omega)).sc (by omega)⟩
  refine HSL2.out.keep (by simp [World.setCell]) fun b hb => ?_
  have hb1 : b ≠ W.heap.size + 1 := by omega
  rw [Below.heap_setCell _ _ _ b hb1, Below.heap_setCell _ _ _ b hb1, Below.heap_setCell _ _ _ b hb1, Below.heap_setCell _ _ _ b hb1, Below.heap_setCell _ _ _ b hb1]
end Go.Proofs.Ytilcbbdmenknfaa
