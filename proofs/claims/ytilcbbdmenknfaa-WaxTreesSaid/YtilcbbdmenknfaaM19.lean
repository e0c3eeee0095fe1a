/- Walks: the reference's ends. · Walks: the reference's Value. -/
import Derived.Test.YtilcbbdmenknfaaM15
import Derived.Test.YtilcbbdmenknfaaM18
import Derived.Test.YtilcbbdmenknfaaM14
namespace Go.Proofs.Ytilcbbdmenknfaa
open Go.RowKit

/-- what s reaches when the flow is greatest is the least side .. -/
theorem Rm.lst {G : Nw} {N s t : Nat} {c y : Nat → Nat → Int} {T : Int} {R : Nat → Bool} {la rk : Nat → Nat} (hc : ∀ S, Nw.Sd s t S → rc N c S = G.ct S) (h : Rm N s t c y T) (hw : Wm N s y R la rk) (hR : R t = false) : Lst G N s t R := by
  have hsd : Nw.Sd s t R := ⟨hw.root, hR⟩
  have hT := (h.tight hsd).2 hw.closed
  have hms : Ms G s t R := ⟨hsd, fun S hS => by rw [← hc R hsd, ← hc S hS, hT]; exact h.weak hS⟩
  refine ⟨hms, fun S hS v hv hRv => ?_⟩
  have h1 : rc N c S = T := by
    have a := h.weak hS.sd
    have b := hS.le R hsd
    rw [← hc S hS.sd, ← hc R hsd] at b
    omega
  exact hw.least hS.sd.1 ((h.tight hS.sd).1 h1) v hv hRv
/-- .. and what does not reach t the greatest -/
theorem Rm.gst {G : Nw} {N s t : Nat} {c y : Nat → Nat → Int} {T : Int} {R Q : Nat → Bool} {la rk la2 rk2 : Nat → Nat} (hs : s < N) (hc : ∀ S, Nw.Sd s t S → rc N c S = G.ct S) (h : Rm N s t c y T) (hw : Wm N s y R la rk) (hR : R t = false) (hq : Wm N t (fun i j => y j i) Q la2 rk2) :
    Gst G N s t (fun v => !Q v) := by
  have hsd : Nw.Sd s t R := ⟨hw.root, hR⟩
  have hT := (h.tight hsd).2 hw.closed
  have key : ∀ S, Nw.Sd s t S → Clm N y S → ∀ v, v < N → Q v = true → S v = false := by
    intro S hS hC v hv hQ
    have := hq.least (S := fun v => !S v) (by simp [hS.2]) (fun i j hi hj hp hSi => by
      simp at hSi ⊢
      cases e : S j
      · rfl
      · have := hC j i hj hi hp e
        rw [hSi] at this; cases this) v hv hQ
    simpa using this
  have hQs : Q s = false := by
    cases e : Q s
    · rfl
    · have := key R hsd hw.closed s hs e
      rw [hw.root] at this; cases this
  have hsd2 : Nw.Sd s t (fun v => !Q v) := ⟨by simp [hQs], by simp [hq.root]⟩
  have hcl : Clm N y (fun v => !Q v) := fun i j hi hj hp hSi => by
    simp at hSi ⊢
    cases e : Q j
    · rfl
    · have := hq.closed j i hj hi hp e
      rw [hSi] at this; cases this
  have hT2 := (h.tight hsd2).2 hcl
  refine ⟨⟨hsd2, fun S hS => by rw [← hc _ hsd2, ← hc S hS, hT2]; exact h.weak hS⟩, fun S hS v hv hSv => ?_⟩
  have h1 : rc N c S = T := by
    have a := h.weak hS.sd
    have b := hS.le R hsd
    rw [← hc S hS.sd, ← hc R hsd] at b
    omega
  cases e : Q v
  · simp [e]
  · have := key S hS.sd ((h.tight hS.sd).1 h1) v hv e
    rw [hSv] at this; cases this
theorem Gd.far2 {w : World} {b N : Nat} {y : Nat → Nat → Int} (h : Gd w b N y) {p : Addr} (h1 : b < p.block) (h2 : ∀ i, i < N → b + 1 + i < p.block) (v : Value) : Gd (w.setCell p v) b N y :=
  ⟨Bk.far h.top (by omega) _, fun i hi => Bk.far (h.row i hi) (by have := h2 i hi; omega) _⟩

set_option maxHeartbeats 4000000 in
set_option maxRecDepth 100000 in
theorem ends_own (b N s t : Nat) (c : Nat → Nat → Int) (B : Int) (W0 W : World) (hG : Gd W b N c) (hN : N ≤ 100) (hs : s < N) (ht : t < N) (hst : s ≠ t)
    (hB : ∀ i j, i < N → j < N → 0 ≤ c i j ∧ c i j ≤ B) (hB0 : 0 ≤ B) (hB2 : B ≤ 10000000000000) (h0 : Ext W0 W) (hb : W0.heap.size ≤ b) :
    Calls Try.prog 59 #[.slice (some ⟨b, 0, none⟩) N N, .int .i64 s, .int .i64 t] W fun e W' => ∃ (F G : Value) (T : Int) (y : Nat → Nat → Int) (R Q : Nat → Bool) (la rk la2 rk2 : Nat → Nat),
      e = .returned (.tuple #[F, G]) ∧ Rm N s t c y T ∧ Wm N s y R la rk ∧ R t = false ∧ Wm N t (fun i j => y j i) Q la2 rk2 ∧ Bl W' F N R ∧ Bl W' G N (fun v => !Q v) ∧ Ext W0 W' ∧ (∀ b, F.ownBlock = some b → W0.heap.size ≤ b) ∧ (∀ b, G.ownBlock = some b → W0.heap.size ≤ b) := by
  have hm1 : ∀ w, (Instr.makeSlice 91 (.int .i64 (N : Int)) (.int .i64 (N : Int))).run Try.prog w = .ok (.slice (some ⟨w.heap.size, 0, none⟩) N N) (w.alloc (.cells (Array.ofFn fun _ : Fin N => .slice none 0 0) 33)) := fun w => make_one 91 33 _ 24 Try.underlying91 info33 rfl (by omega) N (by omega) w
  have hm2 : ∀ w, (Instr.makeSlice 33 (.int .i64 (N : Int)) (.int .i64 (N : Int))).run Try.prog w = .ok (.slice (some ⟨w.heap.size, 0, none⟩) N N) (w.alloc (.cells (Array.ofFn fun _ : Fin N => .int .i64 0) 3)) := fun w => make_one 33 3 _ 8 Try.underlying33 info3 rfl (by omega) N (by omega) w
  have HG := Lib.hid hG; have H0 := Lib.hid h0; have HB := Lib.hid hB
  clear hG h0 hB
  go_enter Try.func59, Try.ntmps59
  go_wp2_with fail
  refine (greatestR_any b N s t c B W0 _ HG.out hN hs ht hst HB.out hB0 hB2 H0.out hb).mono ?_
  rintro e w1 ⟨T, y, R, la, rk, rfl, hgd, hrm, hwm, hR, hx⟩
  have HGD := Lib.hid hgd; have HRM := Lib.hid (And.intro hrm (And.intro hwm hR)); have HX := Lib.hid hx
  clear hgd hrm hwm hR hx H0 HG HB
  go_wp2_with fail
  obtain ⟨b2, hb2⟩ : ∃ b2, b2 = w1.heap.size := ⟨_, rfl⟩
  have hrow : ∀ i, i < N → b + 1 + i < b2 := fun i hi => by rw [hb2]; exact HGD.out.lt hi
  have hbb2 : b < b2 := by rw [hb2]; exact Bk.lt HGD.out.top
  have y1 : Bk (w1.alloc (.cells (Array.ofFn fun _ : Fin N => Value.slice none 0 0) 33)) b2 33 N (fun _ => .slice none 0 0) := by rw [hb2]; exact heap_alloc_new w1 _
  have e1 : Ext w1 (w1.alloc (.cells (Array.ofFn fun _ : Fin N => Value.slice none 0 0) 33)) := Ext.alc (Ext.refl _) _
  have z1 : (w1.alloc (.cells (Array.ofFn fun _ : Fin N => Value.slice none 0 0) 33)).heap.size = b2 + 1 := by rw [hb2]; simp
  have HROW := Lib.hid hrow
  have HY := Lib.hid (And.intro y1 (And.intro z1 (And.intro (HGD.out.ext e1) (HX.out.trans e1))))
  rw [← hb2]
  clear y1 e1 z1 hrow hb2 HGD HX
  generalize w1.alloc (.cells (Array.ofFn fun _ : Fin N => Value.slice none 0 0) 33) = w2 at *
  go_loopw [25] (fun i wr => ∃ k : Nat, i = .int .i64 k ∧ k ≤ N ∧ Hid (Bk wr b2 33 N (fun v => if v < k then .slice (some ⟨b2 + 1 + v, 0, none⟩) N N else .slice none 0 0) ∧ wr.heap.size = b2 + 1 + k ∧ (∀ v, v < k → BI wr (b2 + 1 + v) N (fun j => y j v)) ∧ Gd wr b N y ∧ Ext W0 wr)) (fun i _ => N - (intOf i).toNat)
  case atStart => exact ⟨0, rfl, Nat.zero_le _, Lib.hid ⟨Bk.congr HY.out.1 (fun j _ => by simp), HY.out.2.1, fun v hv => by omega, HY.out.2.2.1, HY.out.2.2.2⟩⟩
  case round =>
    clear HY
    obtain ⟨k, rfl, hk, hin⟩ := hrel
    by_cases hlt : k < N
    · have zs := hin.out.2.1
      have c6 := Bk.cell (Bk.alloc hin.out.1 (.cells (Array.ofFn fun _ : Fin N => Value.int .i64 0) 3)) hlt
      have f6 := Bk.free (Bk.alloc hin.out.1 (.cells (Array.ofFn fun _ : Fin N => Value.int .i64 0) 3)) k
      have y2 := Bk.set_ (Bk.alloc hin.out.1 (.cells (Array.ofFn fun _ : Fin N => Value.int .i64 0) 3)) k (.slice (some ⟨b2 + 1 + k, 0, none⟩) N N)
      have y3 : BI (wr.alloc (.cells (Array.ofFn fun _ : Fin N => Value.int .i64 0) 3)) (b2 + 1 + k) N (fun _ => 0) := by rw [← zs]; exact heap_alloc_new wr _
      have y4 : Gd (wr.alloc (.cells (Array.ofFn fun _ : Fin N => Value.int .i64 0) 3)) b N y := hin.out.2.2.2.1.ext (Ext.alc (Ext.refl _) _)
      have Y2 := Lib.hid y2; have Y3 := Lib.hid y3; have Y4 := Lib.hid y4
      clear y2 y3 y4
      go_wp2_with fail
      have hin2 : ∀ q : Nat, q = 0 → Bk ((wr.alloc (.cells (Array.ofFn fun _ : Fin N => Value.int .i64 0) 3)).setCell ⟨b2, k, none⟩ (.slice (some ⟨b2 + 1 + k, 0, none⟩) N N)) b2 33 N (fun v => if v < k + 1 then .slice (some ⟨b2 + 1 + v, 0, none⟩) N N else .slice none 0 0) ∧ ((wr.alloc (.cells (Array.ofFn fun _ : Fin N => Value.int .i64 0) 3)).setCell ⟨b2, k, none⟩ (.slice (some ⟨b2 + 1 + k, 0, none⟩) N N)).heap.size = b2 + 1 + (k + 1) ∧
          (∀ v, v < k → BI ((wr.alloc (.cells (Array.ofFn fun _ : Fin N => Value.int .i64 0) 3)).setCell ⟨b2, k, none⟩ (.slice (some ⟨b2 + 1 + k, 0, none⟩) N N)) (b2 + 1 + v) N (fun j => y j v)) ∧ BI ((wr.alloc (.cells (Array.ofFn fun _ : Fin N => Value.int .i64 0) 3)).setCell ⟨b2, k, none⟩ (.slice (some ⟨b2 + 1 + k, 0, none⟩) N N)) (b2 + 1 + k) N (fun j => if j < q then y j k else 0) ∧
          Gd ((wr.alloc (.cells (Array.ofFn fun _ : Fin N => Value.int .i64 0) 3)).setCell ⟨b2, k, none⟩ (.slice (some ⟨b2 + 1 + k, 0, none⟩) N N)) b N y ∧ Ext W0 ((wr.alloc (.cells (Array.ofFn fun _ : Fin N => Value.int .i64 0) 3)).setCell ⟨b2, k, none⟩ (.slice (some ⟨b2 + 1 + k, 0, none⟩) N N)) := by
        intro q hq
        subst hq
        refine ⟨?_, by simp [World.setCell]; omega, fun v hv => ?_, ?_, Gd.far2 Y4.out (by show b < b2; omega) (fun i hi => HROW.out i hi) _, (hin.out.2.2.2.2.alc _).sc (by omega)⟩
        · refine Bk.congr Y2.out fun j hj => ?_
          by_cases e : j = k
          · subst e; rw [up_self, if_pos (by omega)]
          · rw [up_ne _ _ e]
            by_cases e2 : j < k
            · rw [if_pos e2, if_pos (by omega)]
            · rw [if_neg e2, if_neg (by omega)]
        · exact Bk.far (Bk.alloc (hin.out.2.2.1 v hv) _) (by show b2 + 1 + v ≠ b2; omega) _
        · refine Bk.congr (Bk.far Y3.out (by show b2 + 1 + k ≠ b2; omega) _) fun j hj => by simp
      have HIN := Lib.hid (hin2 0 rfl)
      clear hin2 Y2 Y3 Y4 hin c6 f6
      clear zs
      generalize (wr.alloc (.cells (Array.ofFn fun _ : Fin N => Value.int .i64 0) 3)).setCell ⟨b2, k, none⟩ (.slice (some ⟨b2 + 1 + k, 0, none⟩) N N) = w3 at *
      go_loopw [36] (fun i wr => ∃ q : Nat, i = .int .i64 q ∧ q ≤ N ∧ Hid (Bk wr b2 33 N (fun v => if v < k + 1 then .slice (some ⟨b2 + 1 + v, 0, none⟩) N N else .slice none 0 0) ∧ wr.heap.size = b2 + 1 + (k + 1) ∧ (∀ v, v < k → BI wr (b2 + 1 + v) N (fun j => y j v)) ∧ BI wr (b2 + 1 + k) N (fun j => if j < q then y j k else 0) ∧ Gd wr b N y ∧ Ext W0 wr)) (fun i _ => N - (intOf i).toNat)
      case atStart => exact ⟨0, rfl, Nat.zero_le _, HIN⟩
      case round =>
        clear HIN
        obtain ⟨q, rfl, hq, hin⟩ := hrel
        by_cases hlt2 : q < N
        · have c1 : wr.drew.cell? ⟨b2, k, none⟩ = some (.slice (some ⟨b2 + 1 + k, 0, none⟩) N N) := by
            have h := Bk.cell hin.out.1 hlt
            rw [if_pos (by omega)] at h
            exact h
          have c2 : wr.drew.cell? ⟨b, q, none⟩ = some (.slice (some ⟨b + 1 + q, 0, none⟩) N N) := Gd.cellT hin.out.2.2.2.2.1 hlt2
          obtain ⟨z, hz⟩ : ∃ z, z = y q k := ⟨_, rfl⟩
          have c3 : wr.drew.cell? ⟨b + 1 + q, k, none⟩ = some (.int .i64 z) := by rw [hz]; exact Gd.cell hin.out.2.2.2.2.1 hlt2 hlt
          have f4 : wr.drew.frozen? ⟨b2 + 1 + k, q, none⟩ = false := Bk.free hin.out.2.2.2.1 q
          have c4 : ∃ u, wr.drew.cell? ⟨b2 + 1 + k, q, none⟩ = some u := ⟨_, Bk.cell hin.out.2.2.2.1 hlt2⟩
          obtain ⟨u, c4⟩ := c4
          have HZ := Lib.hid hz; clear hz
          go_upto_region 10 with fail
          go_region
          clear c1 c2 c3 c4 f4
          go_wp2
          go_roundw
          case rel =>
            obtain ⟨h1, h2, h3, h4, h5, h6⟩ := hin.out
            refine ⟨q + 1, by go_num, by omega, Lib.hid ⟨Bk.drew (Bk.far h1 (by show b2 ≠ b2 + 1 + k; omega) _), by simp [World.setCell]; exact h2, fun v hv => Bk.drew (Bk.far (h3 v hv) (by show b2 + 1 + v ≠ b2 + 1 + k; omega) _), ?_, (Gd.far2 h5 (by show b < b2 + 1 + k; omega) (fun i hi => by have := HROW.out i hi; show b + 1 + i < b2 + 1 + k; omega) _).ext (Ext.drw (Ext.refl _)), Ext.drw (h6.sc (by omega))⟩⟩
            refine Bk.drew (Bk.congr (BI.set_ h4 q z) fun j hj => ?_)
            by_cases e : j = q
            · subst e; rw [up_self]; dsimp only; rw [if_pos (by omega), HZ.out]
            · rw [up_ne _ _ e]; dsimp only
              by_cases e2 : j < q
              · rw [if_pos e2, if_pos (by omega)]
              · rw [if_neg e2, if_neg (by omega)]
          case measure => simp [intOf]; omega
        · obtain rfl : q = N := by omega
          obtain ⟨h1, h2, h3, h4, h5, h6⟩ := hin.out
          have HH : Hid (Bk wr b2 33 q (fun v => if v < k + 1 then .slice (some ⟨b2 + 1 + v, 0, none⟩) q q else .slice none 0 0) ∧ wr.heap.size = b2 + 1 + (k + 1) ∧ (∀ v, v < k + 1 → BI wr (b2 + 1 + v) q (fun j => y j v)) ∧ Gd wr b q y ∧ Ext W0 wr) := Lib.hid ⟨h1, h2, fun v hv => by
            by_cases e : v = k
            · subst e; exact Bk.congr h4 fun j hj => by dsimp only; rw [if_pos hj]
            · exact h3 v (by omega), h5, h6⟩
          clear h1 h2 h3 h4 h5 h6 hin
          go_wp2
          go_roundw
          case rel => exact ⟨k + 1, by go_num, by omega, HH⟩
          case measure => simp [intOf]; omega
    · obtain rfl : k = N := by omega
      obtain ⟨h1, h2, h3, h4, h5⟩ := hin.out
      have hgd : Gd wr b2 k (fun i j => y j i) := ⟨Bk.congr h1 fun j hj => by rw [if_pos hj], h3⟩
      have HG2 := Lib.hid (And.intro hgd (And.intro h4 h5))
      clear hgd hin h1 h2 h3 h4 h5
      go_wp2_with fail
      refine (way_any b k s y _ HG2.out.2.1 hN hs).mono ?_
      rintro e w4 ⟨R2, la2, rk2, h, rfl, -, hbi, hwm, hlow, hx⟩
      have HW1 := Lib.hid (And.intro hbi hwm)
      have HX4 := Lib.hid hx
      clear hbi hwm hlow hx
      go_wp2_with fail
      refine (way_any b2 k t (fun i j => y j i) _ (HG2.out.1.ext HX4.out) hN ht).mono ?_
      rintro e w5 ⟨Q, la3, rk3, h', rfl, -, hbi, hwm, hlow, hx⟩
      have HW2 := Lib.hid (And.intro (BI.il hbi (by omega)) (And.intro hwm (And.intro (BI.il (BI.ext HW1.out.1 hx) (by omega)) (HG2.out.2.2.trans (HX4.out.trans hx)))))
      have HW1b := Lib.hid HW1.out.2
      clear hbi hwm hlow hx HX4 HG2 HW1
      have hRR : ∀ v, v < k → R2 v = R v := by
        intro v hv
        have a1 := HW1b.out.least (S := R) HRM.out.2.1.root HRM.out.2.1.closed v hv
        have a2 := HRM.out.2.1.least (S := R2) HW1b.out.root HW1b.out.closed v hv
        cases e : R v <;> cases e2 : R2 v <;> simp_all
      have HRR := Lib.hid hRR
      clear hRR
      obtain ⟨i0, hi, hz0, hz1, hz2⟩ := info_parts info4
      have HI := Lib.hid (And.intro hi (And.intro hz0 (And.intro hz1 hz2)))
      clear hi hz0 hz1 hz2
      obtain ⟨L, hL⟩ : ∃ L : Nat → Bool, L = fun v => R v := ⟨_, rfl⟩
      obtain ⟨M, hM⟩ : ∃ M : Nat → Bool, M = fun v => !Q v := ⟨_, rfl⟩
      have HLM : Hid ((∀ v, L v = R v) ∧ ∀ v, M v = !Q v) := Lib.hid ⟨fun v => by rw [hL], fun v => by rw [hM]⟩
      clear hL hM
      go_wp2_with fail
      go_loopw [13, 14, 62] (fun qa qb i wr => ∃ m : Nat, i = .int .i64 m ∧ m ≤ k ∧ Hid (Tw wr w5.heap.size qa qb m m L M ∧ Ext w5 wr)) (fun _ _ i _ => k - (intOf i).toNat)
      case atStart => exact ⟨0, rfl, Nat.zero_le _, Lib.hid ⟨Tw.nil w5 _ _, Ext.refl _⟩⟩
      case round =>
        obtain ⟨m, rfl, hm, hin⟩ := hrel
        obtain ⟨qa, rfl⟩ : ∃ q, q = u13 := ⟨_, rfl⟩
        obtain ⟨qb, rfl⟩ : ∃ q, q = u14 := ⟨_, rfl⟩
        by_cases hlt2 : m < k
        · obtain ⟨b3, o3, e3, hb3, c1⟩ := Vl.at HW2.out.2.2.1 hin.out.2 hlt2
          injection e3 with e3; injection e3 with e3 e4
          subst e3 e4
          simp only [Nat.zero_add] at c1
          obtain ⟨p, hp⟩ : ∃ p : Int, p = if R2 m = true then ((la2 m : Nat) : Int) else -1 := ⟨_, rfl⟩
          rw [← hp] at c1
          obtain ⟨x, hx⟩ : ∃ x, x = R m := ⟨_, rfl⟩
          have hpx : decide (0 ≤ p) = x := by
            rw [hp, hx, ← HRR.out m hlt2]
            cases e : R2 m
            · simp
            · simp
          have HXR := Lib.hid (And.intro hp hx)
          have HPX := Lib.hid hpx
          clear hp hx hpx
          skip
          have HT : Hid (Tw (wr.alloc (.cells #[.bool (decide (0 ≤ p))] 4)) w5.heap.size qa qb m m L M) := Lib.hid (hin.out.1.ext (Ext.alc (Ext.refl wr) _))
          have HSZ : Hid (w5.heap.size ≤ wr.heap.size) := Lib.hid hin.out.1.le
          have hqa := own_shape HT.out.fst
          obtain ⟨Aa, na_, ca, rfl⟩ := hqa
          have hqb := own_shape HT.out.snd
          obtain ⟨Ab, nb_, cb, rfl⟩ := hqb
          go_wp2_with (at_builtin; refine wpList_append_own_at _ rfl _ _ 40 rfl w5.heap.size 4 i0 (.bool false) 1 1 Try.underlying40 HI.out.1 HI.out.2.1 HI.out.2.2.1 HI.out.2.2.2 rfl (by decide) _ m _ rfl HT.out.fst ⟨wr.heap.size, 0, none⟩ 1 1 [.bool (decide (0 ≤ p))] rfl rfl (bool_news _ (decide (0 ≤ p))) (bool_one (decide (0 ≤ p))) ?qc3 ?qc4 ?qc5 ?_)
          case qc3 => unfold maxLen; omega
          case qc4 => omega
          case qc5 => have := HSZ.out; simp; omega
          intro v1 x1 o1 g1 _n1 a1
          clear _n1
          have hone := HT.out.one (z := decide (0 ≤ p)) (by rw [HLM.out.1, HPX.out, HXR.out.2]) o1 g1 (by simpa using a1)
          have HO1 := Lib.hid (And.intro hone.1 (hone.2 w5 (Ext.alc hin.out.2 _) (Nat.le_refl _)))
          clear o1 g1 a1 hone c1
          obtain ⟨b3, o3, e3, hb3, c1⟩ := Vl.at HW2.out.1 HO1.out.2 hlt2
          injection e3 with e3; injection e3 with e3 e4
          subst e3 e4
          simp only [Nat.zero_add] at c1
          obtain ⟨q, hq⟩ : ∃ q : Int, q = if Q m = true then ((la3 m : Nat) : Int) else -1 := ⟨_, rfl⟩
          rw [← hq] at c1
          have hqx : decide (q < 0) = M m := by
            rw [hq, HLM.out.2]
            cases e : Q m
            · simp
            · simp
          have HQX := Lib.hid hqx
          clear hq hqx
          have HT1 : Hid (Tw (x1.alloc (.cells #[.bool (decide (q < 0))] 4)) w5.heap.size (.slice Ab nb_ cb) v1 m (m + 1) M L) := Lib.hid (HO1.out.1.symm.ext (Ext.alc (Ext.refl x1) _))
          clear HSZ
          have HSZ : Hid (w5.heap.size ≤ x1.heap.size) := Lib.hid HO1.out.1.le
          go_wp2_with (at_builtin; refine wpList_append_own_at _ rfl _ _ 40 rfl w5.heap.size 4 i0 (.bool false) 1 1 Try.underlying40 HI.out.1 HI.out.2.1 HI.out.2.2.1 HI.out.2.2.2 rfl (by decide) _ m _ rfl HT1.out.fst ⟨x1.heap.size, 0, none⟩ 1 1 [.bool (decide (q < 0))] rfl rfl (bool_news _ (decide (q < 0))) (bool_one (decide (q < 0))) ?qc3 ?qc4 ?qc5 ?_)
          case qc3 => unfold maxLen; omega
          case qc4 => omega
          case qc5 => have := HSZ.out; simp; omega
          intro v2 x2 o2 g2 _n2 a2
          clear _n2
          have hone := HT1.out.one (z := decide (q < 0)) (by rw [HQX.out]) o2 g2 (by simpa using a2)
          have HT2 := Lib.hid (And.intro hone.1.symm (hone.2 w5 (Ext.alc HO1.out.2 _) (Nat.le_refl _)))
          clear o2 g2 a2 hone c1
          go_wp2
          go_roundw
          case rel => exact ⟨m + 1, by go_num, by omega, HT2⟩
          case measure => simp [intOf]; omega
        · have hT := hin.out.1
          obtain rfl : k = m := by omega
          obtain ⟨wo, rfl⟩ : ∃ w, w = wr := ⟨_, rfl⟩
          have HQA := Lib.hid (And.intro (ownsRow_bl hT.fst) (ownsRow_bl hT.snd))
          have EX := Lib.hid (HW2.out.2.2.2.trans hin.out.2)
          have HOW : Hid ((∀ b, qa.ownBlock = some b → W0.heap.size ≤ b) ∧ (∀ b, qb.ownBlock = some b → W0.heap.size ≤ b)) := Lib.hid ⟨fun b hb => Nat.le_trans HW2.out.2.2.2.size (World.ownsRow.lt hT.fst b hb).1, fun b hb => Nat.le_trans HW2.out.2.2.2.size (World.ownsRow.lt hT.snd b hb).1⟩
          clear hT hin
          go_wp2
          refine bodyPost_ret (v := .tuple #[qa, qb]) (by simp [results, Try.results59, go_sem]) rfl ⟨_, _, T, y, R, Q, la, rk, la3, rk3, rfl, HRM.out.1, HRM.out.2.1, HRM.out.2.2, HW2.out.2.1, Bl.congr HQA.out.1 (fun j _ => HLM.out.1 j), Bl.congr HQA.out.2 (fun j _ => HLM.out.2 j), EX.out, HOW.out.1, HOW.out.2⟩
theorem ends_any (b N s t : Nat) (c : Nat → Nat → Int) (B : Int) (W0 W : World) (hG : Gd W b N c) (hN : N ≤ 100) (hs : s < N) (ht : t < N) (hst : s ≠ t)
    (hB : ∀ i j, i < N → j < N → 0 ≤ c i j ∧ c i j ≤ B) (hB0 : 0 ≤ B) (hB2 : B ≤ 10000000000000) (h0 : Ext W0 W) (hb : W0.heap.size ≤ b) :
    Calls Try.prog 59 #[.slice (some ⟨b, 0, none⟩) N N, .int .i64 s, .int .i64 t] W fun e W' => ∃ (F G : Value) (T : Int) (y : Nat → Nat → Int) (R Q : Nat → Bool) (la rk la2 rk2 : Nat → Nat),
      e = .returned (.tuple #[F, G]) ∧ Rm N s t c y T ∧ Wm N s y R la rk ∧ R t = false ∧ Wm N t (fun i j => y j i) Q la2 rk2 ∧ Bl W' F N R ∧ Bl W' G N (fun v => !Q v) ∧ Ext W0 W' := by
  refine (ends_own b N s t c B W0 W hG hN hs ht hst hB hB0 hB2 h0 hb).mono ?_
  rintro e w ⟨F, G, T, y, R, Q, la, rk, la2, rk2, h1, h2, h3, h4, h5, h6, h7, h8, -⟩
  exact ⟨F, G, T, y, R, Q, la, rk, la2, rk2, h1, h2, h3, h4, h5, h6, h7, h8⟩
end Go.Proofs.Ytilcbbdmenknfaa
namespace Go.Proofs.Ytilcbbdmenknfaa
open Go.RowKit

theorem mx_bd {a : Ar} {N : Nat} (h : a.Ok N 1000000) (hn : a.n ≤ 1000) (i j : Nat) : 0 ≤ a.nw.mx i j ∧ a.nw.mx i j ≤ 1000000000 := by
  have h1 := Ar.mxk_bd h (by omega) (Nat.le_refl a.n) i j
  rw [Ar.mxk_end] at h1
  omega
/-- what is left of a matrix shows the least cost of a side -/
theorem Rm.mc {a : Ar} {N s t : Nat} {y : Nat → Nat → Int} {T : Int} {R : Nat → Bool} {la rk : Nat → Nat} (hN : a.nw.In N) (h : Rm N s t a.nw.mx y T) (hw : Wm N s y R la rk) (hR : R t = false) : Mc a.nw s t T := by
  refine ⟨⟨R, ⟨hw.root, hR⟩, ?_⟩, fun S hS => ?_⟩
  · rw [← a.nw.rc_mx hN R]
    exact (h.tight ⟨hw.root, hR⟩).2 hw.closed
  · rw [← a.nw.rc_mx hN S]
    exact h.weak hS

set_option maxHeartbeats 4000000 in
set_option maxRecDepth 100000 in
theorem valueR_any (N : Int) (a : Ar) (AV : Value) (W : World) (hA : Al W AV a) :
    Calls Try.prog 17 #[.agg #[.int .i64 N, AV]] W fun e W' => ∃ v er : Int, e = .returned (.tuple #[.int .i64 v, .int .i64 er]) ∧ Ext W W' ∧
      ((vNet N a = false ∧ v = 0 ∧ er = 2) ∨ (vNet N a = true ∧ er = 0 ∧ Mc a.nw 0 (N.toNat - 1) v)) := by
  have HA := Lib.hid hA
  obtain ⟨A, c, rfl, hac, hcm, -⟩ := hA
  go_enter Try.func17, Try.ntmps17
  go_upto_region 1 with fail
  have bb := al1 W (.cells #[.int .i64 N, .slice A a.n c] 24)
  have hh := heap_alloc_new W (.cells #[.int .i64 N, .slice A a.n c] 24)
  have zz : W.heap.size < (W.alloc (.cells #[.int .i64 N, .slice A a.n c] 24)).heap.size := by simp
  generalize W.alloc (.cells #[.int .i64 N, .slice A a.n c] 24) = W1 at *
  have HB : Hid (Ext W W1) := Lib.hid bb
  obtain ⟨m0, m1, m2, m3⟩ := two hh
  have HM := Lib.hid (And.intro m0 m1)
  clear bb hh m2 m3
  go_wp2_with fail
  refine (validR_any N a _ _ (HA.out.ext HB.out)).mono ?_
  rintro e w1 ⟨rfl, hx⟩
  have HX : Hid (Ext W w1) := Lib.hid (HB.out.trans hx)
  have HY : Hid (Ext W1 w1) := Lib.hid hx
  have mz : W.heap.size < w1.heap.size := Nat.lt_of_lt_of_le zz hx.size
  clear hx m0 m1
  cases hv : vNet N a
  · have HV := Lib.hid hv; clear hv
    go_wp2
    refine bodyPost_ret (v := .tuple #[.int .i64 0, .int .i64 2]) (by simp [results, Try.results17, go_sem]) rfl ⟨0, 2, rfl, HX.out, .inl ⟨HV.out, rfl, rfl⟩⟩
  · obtain ⟨m, rfl, hm2, hm40, hn, hok⟩ := vNet_ok hv
    have HOK := Lib.hid hok; have HV := Lib.hid hv
    obtain ⟨t, ht⟩ : ∃ t, t = m - 1 := ⟨_, rfl⟩
    have ht2 : (m : Int) - 1 = (t : Int) := by omega
    have htN : t < m := by omega
    have h0t : 0 ≠ t := by omega
    have HT := Lib.hid ht
    have HM2 := Lib.hid (And.intro (keepAt HY.out zz HM.out.1) (keepAt HY.out zz HM.out.2))
    clear hv hok ht
    go_upto_region 3 with fail
    refine wp_region_noPanic ?_
    refine wp_region_held_drew (S := fun X => Ext w1 X) (by kernel_rfl) (Ext.drw (Ext.refl _)) (fun _ => ?_)
    refine take_at 0 (some 7) (.agg #[.int .i64 m, .slice A a.n c]) rfl rfl (by kernel_rfl) (by kernel_rfl) (by kernel_rfl) (fun _ _ _ h => h) (Or.inl ⟨by rfl, fun w' hSw => ?_⟩) (Ext.drw (Ext.refl _)) ?_
    · have z0 := keepAt hSw mz HM2.out.1
      have z1 := keepAt hSw mz HM2.out.2
      try clear hSw
      go_simp
      all_goals (with_reducible rfl)
    try simp only [Act.put, List.setIfInBounds_toArray, List.set_cons_zero, List.set_cons_succ]
    refine take_at 2 (some 9) (.pointer (some ⟨W.heap.size, 0, none⟩)) rfl rfl (by kernel_rfl) (by kernel_rfl) (by kernel_rfl) (fun _ _ _ h => h) (Or.inl ⟨by rfl, fun w' hSw => ?_⟩) (Ext.drw (Ext.refl _)) ?_
    · skip
      try clear hSw
      go_simp
      all_goals (with_reducible rfl)
    try simp only [Act.put, List.setIfInBounds_toArray, List.set_cons_zero, List.set_cons_succ]
    refine take_at 3 (some 10) (.int .i64 m) rfl rfl (by kernel_rfl) (by kernel_rfl) (by kernel_rfl) (fun _ _ _ h => h) (Or.inl ⟨by rfl, fun w' hSw => ?_⟩) (Ext.drw (Ext.refl _)) ?_
    · have z0 := keepAt hSw mz HM2.out.1
      have z1 := keepAt hSw mz HM2.out.2
      try clear hSw
      go_simp
      all_goals (with_reducible rfl)
    try simp only [Act.put, List.setIfInBounds_toArray, List.set_cons_zero, List.set_cons_succ]
    refine take_at 4 (some 11) (.int .i64 t) rfl rfl (by kernel_rfl) (by kernel_rfl) (by kernel_rfl) (fun _ _ _ h => h) (Or.inl ⟨by rfl, fun w' hSw => ?_⟩) (Ext.drw (Ext.refl _)) ?_
    · skip
      try clear hSw
      go_simp
      all_goals (first | (with_reducible rfl) | exact IntWalk.i64_in _ (by omega))
    try simp only [Act.put, List.setIfInBounds_toArray, List.set_cons_zero, List.set_cons_succ]
    refine wpAnyH_ready (rs := [1]) (by kernel_rfl) (by simp) ?_
    refine AllReadyH.cons rfl (fun K hK => ?_) AllReadyH.nil
    go_simp
    refine (capacities_any a m _ _ (HA.out.ext (HX.out.trans (Ext.drw (Ext.refl _)))) HOK.out (by omega) (by omega)).mono ?_
    rintro e v1 ⟨b, rfl, hb, hgd, hb1⟩
    have e1 : Ext w1 v1 := (Ext.drw (Ext.refl _)).trans hb1
    try go_wp2_with fail
    refine hK.out _ _ e1 (fun _ => ?_)
    clear hK K
    try simp only [Act.put, List.setIfInBounds_toArray, List.set_cons_zero, List.set_cons_succ]
    have HGD := Lib.hid hgd
    clear hgd
    refine wpAnyH_ready (rs := [5]) (by kernel_rfl) (by simp) ?_
    refine AllReadyH.cons rfl (fun K hK => ?_) AllReadyH.nil
    go_simp
    refine (greatestR_any b m 0 t a.nw.mx 1000000000 w1 _ HGD.out (by omega) (by omega) htN h0t (fun i j _ _ => mx_bd HOK.out (by omega) i j) (by omega) (by omega) e1 hb).mono ?_
    rintro e v5 ⟨T, y, R, la, rk, rfl, hgd2, hrm, hwm, hR, e5⟩
    try go_wp2_with fail
    refine hK.out _ _ e5 (fun _ => ?_)
    clear hK K
    try simp only [Act.put, List.setIfInBounds_toArray, List.set_cons_zero, List.set_cons_succ]
    have HMC := Lib.hid (hrm.mc HOK.out.in_ hwm hR)
    clear hgd2 hrm hwm hR
    refine take_at 6 (some 2) (.int .i64 T) rfl rfl (by kernel_rfl) (by kernel_rfl) (by kernel_rfl) (fun _ _ _ h => h) (Or.inl ⟨by rfl, fun w' hSw => ?_⟩) (e5) ?_
    · skip
      try clear hSw
      go_simp
      all_goals (with_reducible rfl)
    try simp only [Act.put, List.setIfInBounds_toArray, List.set_cons_zero, List.set_cons_succ]
    refine take_at 7 (some 3) (.int .i64 0) rfl rfl (by kernel_rfl) (by kernel_rfl) (by kernel_rfl) (fun _ _ _ h => h) (Or.inl ⟨by rfl, fun w' hSw => ?_⟩) (e5) ?_
    · skip
      try clear hSw
      go_simp
      all_goals (with_reducible rfl)
    try simp only [Act.put, List.setIfInBounds_toArray, List.set_cons_zero, List.set_cons_succ]
    refine wpAnyH_done (by kernel_rfl) ?_ _
    refine NoPanic.normal ?_
    have EX := Lib.hid (HX.out.trans e5)
    clear e1 e5 hb1
    go_wp2
    refine bodyPost_ret (v := .tuple #[.int .i64 T, .int .i64 0]) (by simp [results, Try.results17, go_sem]) rfl ⟨T, 0, rfl, EX.out, .inr ⟨HV.out, rfl, ?_⟩⟩
    rw [Int.toNat_natCast, ← HT.out]
    exact HMC.out
end Go.Proofs.Ytilcbbdmenknfaa
