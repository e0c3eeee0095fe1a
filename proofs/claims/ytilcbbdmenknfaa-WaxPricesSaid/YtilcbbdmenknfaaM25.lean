/- Walks: the reference's ends. · Walks: the reference's pairs. -/
import Derived.Test.YtilcbbdmenknfaaM24
import Derived.Test.YtilcbbdmenknfaaM14
import Derived.Test.YtilcbbdmenknfaaM18
import Derived.Test.YtilcbbdmenknfaaM12
namespace Go.Proofs.Ytilcbbdmenknfaa
open Go.RowKit

/-- what s reaches when the flow is greatest is the least side .. -/
theorem Rm.lst {G : Nw} {N s t : Nat} {c y : Nat → Nat → Int} {T : Int} {R : Nat → Bool} {la rk : Nat → Nat} (hc : ∀ S, Nw.Sd s t S → rc N c S = G.ct S) (h : Rm N s t c y T) (hw : Wm N s y R la rk) (hR : R t = false) : Lst G N s t R := by
  have hsd : Nw.Sd s t R := ⟨hw.root, hR⟩
  have hT := (h.tight hsd).2 hw.closed
  have hms : Ms G s t R := ⟨hsd, fun S hS => by rw [← hc R hsd, ← hc S hS, hT]; exact h.weak hS⟩
  refine ⟨hms, fun S hS v hv hRv => ?_⟩
  have h1 : rc N c S = T := by
    have a := h.weak hS.sd
    have b := hS.le R hsd
    rw [← hc S hS.sd, ← hc R hsd] at b
    omega
  exact hw.least hS.sd.1 ((h.tight hS.sd).1 h1) v hv hRv
/-- .. and what does not reach t the greatest -/
theorem Rm.gst {G : Nw} {N s t : Nat} {c y : Nat → Nat → Int} {T : Int} {R Q : Nat → Bool} {la rk la2 rk2 : Nat → Nat} (hs : s < N) (hc : ∀ S, Nw.Sd s t S → rc N c S = G.ct S) (h : Rm N s t c y T) (hw : Wm N s y R la rk) (hR : R t = false) (hq : Wm N t (fun i j => y j i) Q la2 rk2) :
    Gst G N s t (fun v => !Q v) := by
  have hsd : Nw.Sd s t R := ⟨hw.root, hR⟩
  have hT := (h.tight hsd).2 hw.closed
  have key : ∀ S, Nw.Sd s t S → Clm N y S → ∀ v, v < N → Q v = true → S v = false := by
    intro S hS hC v hv hQ
    have := hq.least (S := fun v => !S v) (by simp [hS.2]) (fun i j hi hj hp hSi => by
      simp at hSi ⊢
      cases e : S j
      · rfl
      · have := hC j i hj hi hp e
        rw [hSi] at this; cases this) v hv hQ
    simpa using this
  have hQs : Q s = false := by
    cases e : Q s
    · rfl
    · have := key R hsd hw.closed s hs e
      rw [hw.root] at this; cases this
  have hsd2 : Nw.Sd s t (fun v => !Q v) := ⟨by simp [hQs], by simp [hq.root]⟩
  have hcl : Clm N y (fun v => !Q v) := fun i j hi hj hp hSi => by
    simp at hSi ⊢
    cases e : Q j
    · rfl
    · have := hq.closed j i hj hi hp e
      rw [hSi] at this; cases this
  have hT2 := (h.tight hsd2).2 hcl
  refine ⟨⟨hsd2, fun S hS => by rw [← hc _ hsd2, ← hc S hS, hT2]; exact h.weak hS⟩, fun S hS v hv hSv => ?_⟩
  have h1 : rc N c S = T := by
    have a := h.weak hS.sd
    have b := hS.le R hsd
    rw [← hc S hS.sd, ← hc R hsd] at b
    omega
  cases e : Q v
  · simp [e]
  · have := key S hS.sd ((h.tight hS.sd).1 h1) v hv e
    rw [hSv] at this; cases this
theorem Gd.far2 {w : World} {b N : Nat} {y : Nat → Nat → Int} (h : Gd w b N y) {p : Addr} (h1 : b < p.block) (h2 : ∀ i, i < N → b + 1 + i < p.block) (v : Value) : Gd (w.setCell p v) b N y :=
  ⟨Bk.far h.top (by omega) _, fun i hi => Bk.far (h.row i hi) (by have := h2 i hi; omega) _⟩

set_option maxHeartbeats 4000000 in
set_option maxRecDepth 100000 in
theorem ends_own (b N s t : Nat) (c : Nat → Nat → Int) (B : Int) (W0 W : World) (hG : Gd W b N c) (hN : N ≤ 100) (hs : s < N) (ht : t < N) (hst : s ≠ t)
    (hB : ∀ i j, i < N → j < N → 0 ≤ c i j ∧ c i j ≤ B) (hB0 : 0 ≤ B) (hB2 : B ≤ 10000000000000) (h0 : Ext W0 W) (hb : W0.heap.size ≤ b) :
    Calls Try.prog 59 #[.slice (some ⟨b, 0, none⟩) N N, .int .i64 s, .int .i64 t] W fun e W' => ∃ (F G : Value) (T : Int) (y : Nat → Nat → Int) (R Q : Nat → Bool) (la rk la2 rk2 : Nat → Nat),
      e = .returned (.tuple #[F, G]) ∧ Rm N s t c y T ∧ Wm N s y R la rk ∧ R t = false ∧ Wm N t (fun i j => y j i) Q la2 rk2 ∧ Bl W' F N R ∧ Bl W' G N (fun v => !Q v) ∧ Ext W0 W' ∧ (∀ b, F.ownBlock = some b → W0.heap.size ≤ b) ∧ (∀ b, G.ownBlock = some b → W0.heap.size ≤ b) := by
  have hm1 : ∀ w, (Instr.makeSlice 91 (.int .i64 (N : Int)) (.int .i64 (N : Int))).run Try.prog w = .ok (.slice (some ⟨w.heap.size, 0, none⟩) N N) (w.alloc (.cells (Array.ofFn fun _ : Fin N => .slice none 0 0) 33)) := fun w => make_one 91 33 _ 24 Try.underlying91 info33 rfl (by omega) N (by omega) w
  have hm2 : ∀ w, (Instr.makeSlice 33 (.int .i64 (N : Int)) (.int .i64 (N : Int))).run Try.prog w = .ok (.slice (some ⟨w.heap.size, 0, none⟩) N N) (w.alloc (.cells (Array.ofFn fun _ : Fin N => .int .i64 0) 3)) := fun w => make_one 33 3 _ 8 Try.underlying33 info3 rfl (by omega) N (by omega) w
  have HG := Lib.hid hG; have H0 := Lib.hid h0; have HB := Lib.hid hB
  clear hG h0 hB
  go_enter Try.func59, Try.ntmps59
  go_wp2_with fail
  refine (greatestR_any b N s t c B W0 _ HG.out hN hs ht hst HB.out hB0 hB2 H0.out hb).mono ?_
  rintro e w1 ⟨T, y, R, la, rk, rfl, hgd, hrm, hwm, hR, hx⟩
  have HGD := Lib.hid hgd; have HRM := Lib.hid (And.intro hrm (And.intro hwm hR)); have HX := Lib.hid hx
  clear hgd hrm hwm hR hx H0 HG HB
  go_wp2_with fail
  obtain ⟨b2, hb2⟩ : ∃ b2, b2 = w1.heap.size := ⟨_, rfl⟩
  have hrow : ∀ i, i < N → b + 1 + i < b2 := fun i hi => by rw [hb2]; exact HGD.out.lt hi
  have hbb2 : b < b2 := by rw [hb2]; exact Bk.lt HGD.out.top
  have y1 : Bk (w1.alloc (.cells (Array.ofFn fun _ : Fin N => Value.slice none 0 0) 33)) b2 33 N (fun _ => .slice none 0 0) := by rw [hb2]; exact heap_alloc_new w1 _
  have e1 : Ext w1 (w1.alloc (.cells (Array.ofFn fun _ : Fin N => Value.slice none 0 0) 33)) := Ext.alc (Ext.refl _) _
  have z1 : (w1.alloc (.cells (Array.ofFn fun _ : Fin N => Value.slice none 0 0) 33)).heap.size = b2 + 1 := by rw [hb2]; simp
  have HROW := Lib.hid hrow
  have HY := Lib.hid (And.intro y1 (And.intro z1 (And.intro (HGD.out.ext e1) (HX.out.trans e1))))
  rw [← hb2]
  clear y1 e1 z1 hrow hb2 HGD HX
  generalize w1.alloc (.cells (Array.ofFn fun _ : Fin N => Value.slice none 0 0) 33) = w2 at *
  go_loopw [25] (fun i wr => ∃ k : Nat, i = .int .i64 k ∧ k ≤ N ∧ Hid (Bk wr b2 33 N (fun v => if v < k then .slice (some ⟨b2 + 1 + v, 0, none⟩) N N else .slice none 0 0) ∧ wr.heap.size = b2 + 1 + k ∧ (∀ v, v < k → BI wr (b2 + 1 + v) N (fun j => y j v)) ∧ Gd wr b N y ∧ Ext W0 wr)) (fun i _ => N - (intOf i).toNat)
  case atStart => exact ⟨0, rfl, Nat.zero_le _, Lib.hid ⟨Bk.congr HY.out.1 (fun j _ => by simp), HY.out.2.1, fun v hv => by omega, HY.out.2.2.1, HY.out.2.2.2⟩⟩
  case round =>
    clear HY
    obtain ⟨k, rfl, hk, hin⟩ := hrel
    by_cases hlt : k < N
    · have zs := hin.out.2.1
      have c6 := Bk.cell (Bk.alloc hin.out.1 (.cells (Array.ofFn fun _ : Fin N => Value.int .i64 0) 3)) hlt
      have f6 := Bk.free (Bk.alloc hin.out.1 (.cells (Array.ofFn fun _ : Fin N => Value.int .i64 0) 3)) k
      have y2 := Bk.set_ (Bk.alloc hin.out.1 (.cells (Array.ofFn fun _ : Fin N => Value.int .i64 0) 3)) k (.slice (some ⟨b2 + 1 + k, 0, none⟩) N N)
      have y3 : BI (wr.alloc (.cells (Array.ofFn fun _ : Fin N => Value.int .i64 0) 3)) (b2 + 1 + k) N (fun _ => 0) := by rw [← zs]; exact heap_alloc_new wr _
      have y4 : Gd (wr.alloc (.cells (Array.ofFn fun _ : Fin N => Value.int .i64 0) 3)) b N y := hin.out.2.2.2.1.ext (Ext.alc (Ext.refl _) _)
      have Y2 := Lib.hid y2; have Y3 := Lib.hid y3; have Y4 := Lib.hid y4
      clear y2 y3 y4
      go_wp2_with fail
      have hin2 : ∀ q : Nat, q = 0 → Bk ((wr.alloc (.cells (Array.ofFn fun _ : Fin N => Value.int .i64 0) 3)).setCell ⟨b2, k, none⟩ (.slice (some ⟨b2 + 1 + k, 0, none⟩) N N)) b2 33 N (fun v => if v < k + 1 then .slice (some ⟨b2 + 1 + v, 0, none⟩) N N else .slice none 0 0) ∧ ((wr.alloc (.cells (Array.ofFn fun _ : Fin N => Value.int .i64 0) 3)).setCell ⟨b2, k, none⟩ (.slice (some ⟨b2 + 1 + k, 0, none⟩) N N)).heap.size = b2 + 1 + (k + 1) ∧
          (∀ v, v < k → BI ((wr.alloc (.cells (Array.ofFn fun _ : Fin N => Value.int .i64 0) 3)).setCell ⟨b2, k, none⟩ (.slice (some ⟨b2 + 1 + k, 0, none⟩) N N)) (b2 + 1 + v) N (fun j => y j v)) ∧ BI ((wr.alloc (.cells (Array.ofFn fun _ : Fin N => Value.int .i64 0) 3)).setCell ⟨b2, k, none⟩ (.slice (some ⟨b2 + 1 + k, 0, none⟩) N N)) (b2 + 1 + k) N (fun j => if j < q then y j k else 0) ∧
          Gd ((wr.alloc (.cells (Array.ofFn fun _ : Fin N => Value.int .i64 0) 3)).setCell ⟨b2, k, none⟩ (.slice (some ⟨b2 + 1 + k, 0, none⟩) N N)) b N y ∧ Ext W0 ((wr.alloc (.cells (Array.ofFn fun _ : Fin N => Value.int .i64 0) 3)).setCell ⟨b2, k, none⟩ (.slice (some ⟨b2 + 1 + k, 0, none⟩) N N)) := by
        intro q hq
        subst hq
        refine ⟨?_, by simp [World.setCell]; omega, fun v hv => ?_, ?_, Gd.far2 Y4.out (by show b < b2; omega) (fun i hi => HROW.out i hi) _, (hin.out.2.2.2.2.alc _).sc (by omega)⟩
        · refine Bk.congr Y2.out fun j hj => ?_
          by_cases e : j = k
          · subst e; rw [up_self, if_pos (by omega)]
          · rw [up_ne _ _ e]
            by_cases e2 : j < k
            · rw [if_pos e2, if_pos (by omega)]
            · rw [if_neg e2, if_neg (by omega)]
        · exact Bk.far (Bk.alloc (hin.out.2.2.1 v hv) _) (by show b2 + 1 + v ≠ b2; omega) _
        · refine Bk.congr (Bk.far Y3.out (by show b2 + 1 + k ≠ b2; omega) _) fun j hj => by simp
      have HIN := Lib.hid (hin2 0 rfl)
      clear hin2 Y2 Y3 Y4 hin c6 f6
      clear zs
      generalize (wr.alloc (.cells (Array.ofFn fun _ : Fin N => Value.int .i64 0) 3)).setCell ⟨b2, k, none⟩ (.slice (some ⟨b2 + 1 + k, 0, none⟩) N N) = w3 at *
      go_loopw [36] (fun i wr => ∃ q : Nat, i = .int .i64 q ∧ q ≤ N ∧ Hid (Bk wr b2 33 N (fun v => if v < k + 1 then .slice (some ⟨b2 + 1 + v, 0, none⟩) N N else .slice none 0 0) ∧ wr.heap.size = b2 + 1 + (k + 1) ∧ (∀ v, v < k → BI wr (b2 + 1 + v) N (fun j => y j v)) ∧ BI wr (b2 + 1 + k) N (fun j => if j < q then y j k else 0) ∧ Gd wr b N y ∧ Ext W0 wr)) (fun i _ => N - (intOf i).toNat)
      case atStart => exact ⟨0, rfl, Nat.zero_le _, HIN⟩
      case round =>
        clear HIN
        obtain ⟨q, rfl, hq, hin⟩ := hrel
        by_cases hlt2 : q < N
        · have c1 : wr.drew.cell? ⟨b2, k, none⟩ = some (.slice (some ⟨b2 + 1 + k, 0, none⟩) N N) := by
            have h := Bk.cell hin.out.1 hlt
            rw [if_pos (by omega)] at h
            exact h
          have c2 : wr.drew.cell? ⟨b, q, none⟩ = some (.slice (some ⟨b + 1 + q, 0, none⟩) N N) := Gd.cellT hin.out.2.2.2.2.1 hlt2
          obtain ⟨z, hz⟩ : ∃ z, z = y q k := ⟨_, rfl⟩
          have c3 : wr.drew.cell? ⟨b + 1 + q, k, none⟩ = some (.int .i64 z) := by rw [hz]; exact Gd.cell hin.out.2.2.2.2.1 hlt2 hlt
          have f4 : wr.drew.frozen? ⟨b2 + 1 + k, q, none⟩ = false := Bk.free hin.out.2.2.2.1 q
          have c4 : ∃ u, wr.drew.cell? ⟨b2 + 1 + k, q, none⟩ = some u := ⟨_, Bk.cell hin.out.2.2.2.1 hlt2⟩
          obtain ⟨u, c4⟩ := c4
          have HZ := Lib.hid hz; clear hz
          go_upto_region 10 with fail
          go_region
          clear c1 c2 c3 c4 f4
          go_wp2
          go_roundw
          case rel =>
            obtain ⟨h1, h2, h3, h4, h5, h6⟩ := hin.out
            refine ⟨q + 1, by go_num, by omega, Lib.hid ⟨Bk.drew (Bk.far h1 (by show b2 ≠ b2 + 1 + k; omega) _), by simp [World.setCell]; exact h2, fun v hv => Bk.drew (Bk.far (h3 v hv) (by show b2 + 1 + v ≠ b2 + 1 + k; omega) _), ?_, (Gd.far2 h5 (by show b < b2 + 1 + k; omega) (fun i hi => by have := HROW.out i hi; show b + 1 + i < b2 + 1 + k; omega) _).ext (Ext.drw (Ext.refl _)), Ext.drw (h6.sc (by omega))⟩⟩
            refine Bk.drew (Bk.congr (BI.set_ h4 q z) fun j hj => ?_)
            by_cases e : j = q
            · subst e; rw [up_self]; dsimp only; rw [if_pos (by omega), HZ.out]
            · rw [up_ne _ _ e]; dsimp only
              by_cases e2 : j < q
              · rw [if_pos e2, if_pos (by omega)]
              · rw [if_neg e2, if_neg (by omega)]
          case measure => simp [intOf]; omega
        · obtain rfl : q = N := by omega
          obtain ⟨h1, h2, h3, h4, h5, h6⟩ := hin.out
          have HH : Hid (Bk wr b2 33 q (fun v => if v < k + 1 then .slice (some ⟨b2 + 1 + v, 0, none⟩) q q else .slice none 0 0) ∧ wr.heap.size = b2 + 1 + (k + 1) ∧ (∀ v, v < k + 1 → BI wr (b2 + 1 + v) q (fun j => y j v)) ∧ Gd wr b q y ∧ Ext W0 wr) := Lib.hid ⟨h1, h2, fun v hv => by
            by_cases e : v = k
            · subst e; exact Bk.congr h4 fun j hj => by dsimp only; rw [if_pos hj]
            · exact h3 v (by omega), h5, h6⟩
          clear h1 h2 h3 h4 h5 h6 hin
          go_wp2
          go_roundw
          case rel => exact ⟨k + 1, by go_num, by omega, HH⟩
          case measure => simp [intOf]; omega
    · obtain rfl : k = N := by omega
      obtain ⟨h1, h2, h3, h4, h5⟩ := hin.out
      have hgd : Gd wr b2 k (fun i j => y j i) := ⟨Bk.congr h1 fun j hj => by rw [if_pos hj], h3⟩
      have HG2 := Lib.hid (And.intro hgd (And.intro h4 h5))
      clear hgd hin h1 h2 h3 h4 h5
      go_wp2_with fail
      refine (way_any b k s y _ HG2.out.2.1 hN hs).mono ?_
      rintro e w4 ⟨R2, la2, rk2, h, rfl, -, hbi, hwm, hlow, hx⟩
      have HW1 := Lib.hid (And.intro hbi hwm)
      have HX4 := Lib.hid hx
      clear hbi hwm hlow hx
      go_wp2_with fail
      refine (way_any b2 k t (fun i j => y j i) _ (HG2.out.1.ext HX4.out) hN ht).mono ?_
      rintro e w5 ⟨Q, la3, rk3, h', rfl, -, hbi, hwm, hlow, hx⟩
      have HW2 := Lib.hid (And.intro (BI.il hbi (by omega)) (And.intro hwm (And.intro (BI.il (BI.ext HW1.out.1 hx) (by omega)) (HG2.out.2.2.trans (HX4.out.trans hx)))))
      have HW1b := Lib.hid HW1.out.2
      clear hbi hwm hlow hx HX4 HG2 HW1
      have hRR : ∀ v, v < k → R2 v = R v := by
        intro v hv
        have a1 := HW1b.out.least (S := R) HRM.out.2.1.root HRM.out.2.1.closed v hv
        have a2 := HRM.out.2.1.least (S := R2) HW1b.out.root HW1b.out.closed v hv
        cases e : R v <;> cases e2 : R2 v <;> simp_all
      have HRR := Lib.hid hRR
      clear hRR
      obtain ⟨i0, hi, hz0, hz1, hz2⟩ := info_parts info4
      have HI := Lib.hid (And.intro hi (And.intro hz0 (And.intro hz1 hz2)))
      clear hi hz0 hz1 hz2
      obtain ⟨L, hL⟩ : ∃ L : Nat → Bool, L = fun v => R v := ⟨_, rfl⟩
      obtain ⟨M, hM⟩ : ∃ M : Nat → Bool, M = fun v => !Q v := ⟨_, rfl⟩
      have HLM : Hid ((∀ v, L v = R v) ∧ ∀ v, M v = !Q v) := Lib.hid ⟨fun v => by rw [hL], fun v => by rw [hM]⟩
      clear hL hM
      go_wp2_with fail
      go_loopw [13, 14, 62] (fun qa qb i wr => ∃ m : Nat, i = .int .i64 m ∧ m ≤ k ∧ Hid (Tw wr w5.heap.size qa qb m m L M ∧ Ext w5 wr)) (fun _ _ i _ => k - (intOf i).toNat)
      case atStart => exact ⟨0, rfl, Nat.zero_le _, Lib.hid ⟨Tw.nil w5 _ _, Ext.refl _⟩⟩
      case round =>
        obtain ⟨m, rfl, hm, hin⟩ := hrel
        obtain ⟨qa, rfl⟩ : ∃ q, q = u13 := ⟨_, rfl⟩
        obtain ⟨qb, rfl⟩ : ∃ q, q = u14 := ⟨_, rfl⟩
        by_cases hlt2 : m < k
        · obtain ⟨b3, o3, e3, hb3, c1⟩ := Vl.at HW2.out.2.2.1 hin.out.2 hlt2
          injection e3 with e3; injection e3 with e3 e4
          subst e3 e4
          simp only [Nat.zero_add] at c1
          obtain ⟨p, hp⟩ : ∃ p : Int, p = if R2 m = true then ((la2 m : Nat) : Int) else -1 := ⟨_, rfl⟩
          rw [← hp] at c1
          obtain ⟨x, hx⟩ : ∃ x, x = R m := ⟨_, rfl⟩
          have hpx : decide (0 ≤ p) = x := by
            rw [hp, hx, ← HRR.out m hlt2]
            cases e : R2 m
            · simp
            · simp
          have HXR := Lib.hid (And.intro hp hx)
          have HPX := Lib.hid hpx
          clear hp hx hpx
          skip
          have HT : Hid (Tw (wr.alloc (.cells #[.bool (decide (0 ≤ p))] 4)) w5.heap.size qa qb m m L M) := Lib.hid (hin.out.1.ext (Ext.alc (Ext.refl wr) _))
          have HSZ : Hid (w5.heap.size ≤ wr.heap.size) := Lib.hid hin.out.1.le
          have hqa := own_shape HT.out.fst
          obtain ⟨Aa, na_, ca, rfl⟩ := hqa
          have hqb := own_shape HT.out.snd
          obtain ⟨Ab, nb_, cb, rfl⟩ := hqb
          go_wp2_with (at_builtin; refine wpList_append_own_at _ rfl _ _ 40 rfl w5.heap.size 4 i0 (.bool false) 1 1 Try.underlying40 HI.out.1 HI.out.2.1 HI.out.2.2.1 HI.out.2.2.2 rfl (by decide) _ m _ rfl HT.out.fst ⟨wr.heap.size, 0, none⟩ 1 1 [.bool (decide (0 ≤ p))] rfl rfl (bool_news _ (decide (0 ≤ p))) (bool_one (decide (0 ≤ p))) ?qc3 ?qc4 ?qc5 ?_)
          case qc3 => unfold maxLen; omega
          case qc4 => omega
          case qc5 => have := HSZ.out; simp; omega
          intro v1 x1 o1 g1 _n1 a1
          clear _n1
          have hone := HT.out.one (z := decide (0 ≤ p)) (by rw [HLM.out.1, HPX.out, HXR.out.2]) o1 g1 (by simpa using a1)
          have HO1 := Lib.hid (And.intro hone.1 (hone.2 w5 (Ext.alc hin.out.2 _) (Nat.le_refl _)))
          clear o1 g1 a1 hone c1
          obtain ⟨b3, o3, e3, hb3, c1⟩ := Vl.at HW2.out.1 HO1.out.2 hlt2
          injection e3 with e3; injection e3 with e3 e4
          subst e3 e4
          simp only [Nat.zero_add] at c1
          obtain ⟨q, hq⟩ : ∃ q : Int, q = if Q m = true then ((la3 m : Nat) : Int) else -1 := ⟨_, rfl⟩
          rw [← hq] at c1
          have hqx : decide (q < 0) = M m := by
            rw [hq, HLM.out.2]
            cases e : Q m
            · simp
            · simp
          have HQX := Lib.hid hqx
          clear hq hqx
          have HT1 : Hid (Tw (x1.alloc (.cells #[.bool (decide (q < 0))] 4)) w5.heap.size (.slice Ab nb_ cb) v1 m (m + 1) M L) := Lib.hid (HO1.out.1.symm.ext (Ext.alc (Ext.refl x1) _))
          clear HSZ
          have HSZ : Hid (w5.heap.size ≤ x1.heap.size) := Lib.hid HO1.out.1.le
          go_wp2_with (at_builtin; refine wpList_append_own_at _ rfl _ _ 40 rfl w5.heap.size 4 i0 (.bool false) 1 1 Try.underlying40 HI.out.1 HI.out.2.1 HI.out.2.2.1 HI.out.2.2.2 rfl (by decide) _ m _ rfl HT1.out.fst ⟨x1.heap.size, 0, none⟩ 1 1 [.bool (decide (q < 0))] rfl rfl (bool_news _ (decide (q < 0))) (bool_one (decide (q < 0))) ?qc3 ?qc4 ?qc5 ?_)
          case qc3 => unfold maxLen; omega
          case qc4 => omega
          case qc5 => have := HSZ.out; simp; omega
          intro v2 x2 o2 g2 _n2 a2
          clear _n2
          have hone := HT1.out.one (z := decide (q < 0)) (by rw [HQX.out]) o2 g2 (by simpa using a2)
          have HT2 := Lib.hid (And.intro hone.1.symm (hone.2 w5 (Ext.alc HO1.out.2 _) (Nat.le_refl _)))
          clear o2 g2 a2 hone c1
          go_wp2
          go_roundw
          case rel => exact ⟨m + 1, by go_num, by omega, HT2⟩
          case measure => simp [intOf]; omega
        · have hT := hin.out.1
          obtain rfl : k = m := by omega
          obtain ⟨wo, rfl⟩ : ∃ w, w = wr := ⟨_, rfl⟩
          have HQA := Lib.hid (And.intro (ownsRow_bl hT.fst) (ownsRow_bl hT.snd))
          have EX := Lib.hid (HW2.out.2.2.2.trans hin.out.2)
          have HOW : Hid ((∀ b, qa.ownBlock = some b → W0.heap.size ≤ b) ∧ (∀ b, qb.ownBlock = some b → W0.heap.size ≤ b)) := Lib.hid ⟨fun b hb => Nat.le_trans HW2.out.2.2.2.size (World.ownsRow.lt hT.fst b hb).1, fun b hb => Nat.le_trans HW2.out.2.2.2.size (World.ownsRow.lt hT.snd b hb).1⟩
          clear hT hin
          go_wp2
          refine bodyPost_ret (v := .tuple #[qa, qb]) (by simp [results, Try.results59, go_sem]) rfl ⟨_, _, T, y, R, Q, la, rk, la3, rk3, rfl, HRM.out.1, HRM.out.2.1, HRM.out.2.2, HW2.out.2.1, Bl.congr HQA.out.1 (fun j _ => HLM.out.1 j), Bl.congr HQA.out.2 (fun j _ => HLM.out.2 j), EX.out, HOW.out.1, HOW.out.2⟩
theorem ends_any (b N s t : Nat) (c : Nat → Nat → Int) (B : Int) (W0 W : World) (hG : Gd W b N c) (hN : N ≤ 100) (hs : s < N) (ht : t < N) (hst : s ≠ t)
    (hB : ∀ i j, i < N → j < N → 0 ≤ c i j ∧ c i j ≤ B) (hB0 : 0 ≤ B) (hB2 : B ≤ 10000000000000) (h0 : Ext W0 W) (hb : W0.heap.size ≤ b) :
    Calls Try.prog 59 #[.slice (some ⟨b, 0, none⟩) N N, .int .i64 s, .int .i64 t] W fun e W' => ∃ (F G : Value) (T : Int) (y : Nat → Nat → Int) (R Q : Nat → Bool) (la rk la2 rk2 : Nat → Nat),
      e = .returned (.tuple #[F, G]) ∧ Rm N s t c y T ∧ Wm N s y R la rk ∧ R t = false ∧ Wm N t (fun i j => y j i) Q la2 rk2 ∧ Bl W' F N R ∧ Bl W' G N (fun v => !Q v) ∧ Ext W0 W' := by
  refine (ends_own b N s t c B W0 W hG hN hs ht hst hB hB0 hB2 h0 hb).mono ?_
  rintro e w ⟨F, G, T, y, R, Q, la, rk, la2, rk2, h1, h2, h3, h4, h5, h6, h7, h8, -⟩
  exact ⟨F, G, T, y, R, Q, la, rk, la2, rk2, h1, h2, h3, h4, h5, h6, h7, h8⟩
end Go.Proofs.Ytilcbbdmenknfaa
namespace Go.Proofs.Ytilcbbdmenknfaa
open Go.RowKit

set_option maxRecDepth 100000 in
theorem info126 : (Try.prog.info? 126).map (fun i => (i.zero, i.size, i.bytes)) = some (some (.agg #[.int .i64 0, .int .i64 0, .int .i64 0]), 3, 24) := by kernel_rfl

set_option maxHeartbeats 4000000 in
set_option maxRecDepth 100000 in
theorem pairsR_own (c : Cl) (V : Value) (W : World) (hV : Kl W V c) (hc : vCl c = true) :
    Calls Try.prog 86 #[V] W fun e W' => ∃ U, e = .returned U ∧ W'.ownsRow W.heap.size 126 3 U c.prs.n (acl c.prs c.prs.n) ∧ Ext W W' := by
  obtain ⟨⟨hw1, hw2⟩, ⟨hh1, hh2⟩, -, -, ⟨hnr, hr⟩, ⟨hnd, hd⟩⟩ := vCl_ok hc
  clear hc
  obtain ⟨B, X, R, D, rfl, hB, hX, hR, hD⟩ := hV
  obtain ⟨w, h, nb, b, nx, x, nr, r, nd, d⟩ := c
  dsimp only at hB hX hR hD hw1 hw2 hh1 hh2 hnr hr hnd hd ⊢
  obtain ⟨a, ha⟩ : ∃ a : Ar, a = Cl.prs ⟨w, h, nb, b, nx, x, nr, r, nd, d⟩ := ⟨_, rfl⟩
  rw [← ha]
  have han : a.n = nr + nd := by rw [ha]; rfl
  obtain ⟨Z, hZ⟩ : ∃ Z : Nat, w - 1 = (Z : Int) := ⟨(w - 1).toNat, by omega⟩
  have hwZ : w = (Z : Int) + 1 := by omega
  have hZ5 : Z ≤ 5 := by omega
  have hnr2 : nr ≤ 30 := by have := (side_prod (show 0 ≤ w - 1 by omega) (show w - 1 ≤ 5 by omega) (show 0 ≤ h by omega) hh2).2; omega
  have hnd2 : nd ≤ 30 := by have := (side_prod (show 0 ≤ w by omega) hw2 (show 0 ≤ h - 1 by omega) (show h - 1 ≤ 5 by omega)).2; omega
  have hZp : 0 < nr → 0 < Z := by
    intro h0
    rcases Nat.eq_zero_or_pos Z with e | e
    · rw [hZ, e] at hnr; simp at hnr; omega
    · exact e
  have haf : ∀ k, k < nr → a.f k = ((k / Z * (Z + 1) + k % Z : Nat) : Int) ∧ a.t k = ((k / Z * (Z + 1) + k % Z + 1 : Nat) : Int) ∧ a.c k = r k := by
    intro k hk
    have e1 : (w - 1).toNat = Z := by omega
    have e2 : w.toNat = Z + 1 := by omega
    rw [ha]; unfold Cl.prs; dsimp only
    rw [if_pos hk, if_pos hk, if_pos hk, e1, e2]
    exact ⟨rfl, rfl, rfl⟩
  have hag : ∀ k, a.f (nr + k) = (k : Int) ∧ a.t (nr + k) = (k : Int) + w ∧ a.c (nr + k) = d k := by
    intro k
    have e2 : w.toNat = Z + 1 := by omega
    rw [ha]; unfold Cl.prs; dsimp only
    rw [if_neg (by omega), if_neg (by omega), if_neg (by omega), e2, show nr + k - nr = k by omega]
    exact ⟨rfl, by rw [hwZ, Int.natCast_add]; rfl, rfl⟩
  have HAF := Lib.hid haf; have HAG := Lib.hid hag; have HAN := Lib.hid han
  have HL := Lib.hid (And.intro hR hD)
  have HZ := Lib.hid (And.intro hZ (And.intro hwZ hZp))
  have HRD := Lib.hid (And.intro hr hd)
  clear haf hag han hB hX ha hnr hnd hr hd hZ hwZ hZp hh1 hh2
  obtain ⟨AR, cR, rfl, hcR, hdR, -⟩ := hR
  obtain ⟨AD, cD, rfl, hcD, hdD, -⟩ := hD
  obtain ⟨i0, hi, hz0, hz1, hz2⟩ := info_parts info126
  have HI := Lib.hid (And.intro hi (And.intro hz0 (And.intro hz1 hz2)))
  clear hi hz0 hz1 hz2
  go_enter Try.func86, Try.ntmps86
  go_upto_region 1 with fail
  have bb := al1 W (.cells #[.int .i64 w, .int .i64 h, B, X, .slice AR nr cR, .slice AD nd cD] 68)
  obtain ⟨m0, -, -, -, m4, m5, mz, -⟩ := six (heap_alloc_new W (.cells #[.int .i64 w, .int .i64 h, B, X, .slice AR nr cR, .slice AD nd cD] 68))
  generalize W.alloc (.cells #[.int .i64 w, .int .i64 h, B, X, .slice AR nr cR, .slice AD nd cD] 68) = W1 at *
  have HB : Hid (Ext W W1) := Lib.hid bb
  have HM := Lib.hid (And.intro m0 (And.intro m4 m5))
  clear bb m0 m5
  go_wp2_with fail
  clear m4
  go_loopw [3, 12] (fun q i wr => ∃ (k : Nat), i = .int .i64 k ∧ k ≤ nr ∧ Hid (wr.ownsRow W1.heap.size 126 3 q k (acl a k) ∧ Ext W1 wr)) (fun _ i _ => nr - (intOf i).toNat)
  case atStart => exact ⟨0, rfl, Nat.zero_le _, Lib.hid ⟨World.ownsRow_nil _ _ _ _, Ext.refl _⟩⟩
  case round =>
    obtain ⟨k, rfl, hk, hin⟩ := hrel
    obtain ⟨Av, cv, rfl⟩ := shape_own hin.out.1
    by_cases hlt : k < nr
    · obtain ⟨b1, o1, rfl, -, e1⟩ := Vl.at HL.out.1 (HB.out.trans hin.out.2) hlt
      have m0 := keepAt hin.out.2 mz HM.out.1
      obtain ⟨p, hp⟩ : ∃ p, p = r k := ⟨_, rfl⟩
      rw [← hp] at e1
      go_upto_region 5 with fail
      have hZ0 : 0 < Z := HZ.out.2.2 (by omega)
      obtain ⟨q, hq⟩ : ∃ q, q = k / Z := ⟨_, rfl⟩
      obtain ⟨z, hz⟩ : ∃ z, z = k % Z := ⟨_, rfl⟩
      obtain ⟨P, hP⟩ : ∃ P, P = q * (Z + 1) := ⟨_, rfl⟩
      have hq30 : q ≤ 30 := by have := Nat.div_le_self k Z; omega
      have hz30 : z ≤ 30 := by have := Nat.mod_le k Z; omega
      have hP2 : P ≤ 180 := by rw [hP]; exact Nat.mul_le_mul hq30 (show Z + 1 ≤ 6 by omega)
      have hsub := HZ.out.1
      have hdq : ((k : Int)).tdiv Z = q := by rw [Int.tdiv_eq_ediv_of_nonneg (by omega), ← Int.natCast_ediv, hq]
      have hdq2 : ((k : Int)) / Z = q := by rw [← Int.natCast_ediv, hq]
      have hdm : ((k : Int)).tmod Z = z := by rw [Int.tmod_eq_emod_of_nonneg (by omega), ← Int.natCast_emod, hz]
      have hdm2 : ((k : Int)) % Z = z := by rw [← Int.natCast_emod, hz]
      have hmul : (q : Int) * w = P := by rw [HZ.out.2.1, hP, Int.natCast_mul, Int.natCast_add]; rfl
      have HP3 := Lib.hid (And.intro hp (And.intro hq (And.intro hz hP)))
      have m0d : wr.drew.cell? ⟨W.heap.size, 0, none⟩ = some (.int .i64 w) := m0
      clear hp hq hz hP m0 e1
      go_region
      try clear m0d
      have hown := World.ownsRow.ext hin.out.1 (Ext.alc (Ext.drw (Ext.refl wr)) (.cells #[.int .i64 ((P : Int) + z), .int .i64 ((P : Int) + z + 1), .int .i64 (r k)] 126))
      go_wp2_with (at_builtin; refine wpList_append_own _ rfl _ _ 124 rfl W1.heap.size 126 i0 (.agg #[.int .i64 0, .int .i64 0, .int .i64 0]) 3 24 Try.underlying124 HI.out.1 HI.out.2.1 HI.out.2.2.1 HI.out.2.2.2 rfl (by decide) _ k _ rfl hown ⟨wr.heap.size, 0, none⟩ 1 1 [.int .i64 ((P : Int) + z), .int .i64 ((P : Int) + z + 1), .int .i64 (r k)] rfl rfl ?c1 ?c2 ?c3 ?c4 ?c5 ?_)
      case c1 =>
        intro jj uu hj
        match jj, hj with
        | 0, hj => simp at hj; subst hj; simp [Addr.add]
        | 1, hj => simp at hj; subst hj; simp [Addr.add]
        | 2, hj => simp at hj; subst hj; simp [Addr.add]
        | jj + 3, hj => simp at hj
      case c2 => intro uu hu; simp at hu; rcases hu with rfl | rfl | rfl <;> rfl
      case c3 => unfold maxLen; omega
      case c4 => omega
      case c5 => have := hin.out.2.size; simp; omega
      intro v' w2 hown' hgrow _hnil
      clear _hnil
      have hex : Ext W1 w2 := ext_grow ((hin.out.2.drw).alc _) hgrow (fun b' hb' => (World.ownsRow.lt hown b' hb').1) (Nat.le_refl _)
      have HN := Lib.hid (And.intro hown' hex)
      clear hown' hex hgrow hown
      go_wp2
      go_roundw
      case rel =>
        refine ⟨k + 1, by go_num, by omega, Lib.hid ⟨?_, HN.out.2⟩⟩
        obtain ⟨y1, y2, y3⟩ := HAF.out k hlt
        have s1 : a.f k = (P : Int) + z := by rw [y1, HP3.out.2.2.2, HP3.out.2.1, HP3.out.2.2.1, Int.natCast_add]
        have s2 : a.t k = (P : Int) + z + 1 := by rw [y2, HP3.out.2.2.2, HP3.out.2.1, HP3.out.2.2.1, Int.natCast_add, Int.natCast_add]; rfl
        rw [acl_succ, s1, s2, y3]
        exact HN.out.1
      case measure => simp [intOf]; omega
    · obtain rfl : nr = k := by omega
      have hnl : ¬ (nr : Int) < nr := by omega
      obtain ⟨wo, rfl⟩ : ∃ w, w = wr := ⟨_, rfl⟩
      have m5 := keepAt hin.out.2 mz HM.out.2.2
      have HO := hin
      clear hin
      go_wp2_with fail
      clear m5
      go_loopw [3, 43] (fun q i wr => ∃ (k : Nat), i = .int .i64 k ∧ k ≤ nd ∧ Hid (wr.ownsRow W1.heap.size 126 3 q (nr + k) (acl a (nr + k)) ∧ Ext W1 wr)) (fun _ i _ => nd - (intOf i).toNat)
      case atStart => exact ⟨0, rfl, Nat.zero_le _, HO⟩
      case round =>
        obtain ⟨k, rfl, hk, hin⟩ := hrel
        obtain ⟨Aw, cw, rfl⟩ := shape_own hin.out.1
        by_cases hlt : k < nd
        · obtain ⟨b2, o2, rfl, -, e2⟩ := Vl.at HL.out.2 (HB.out.trans hin.out.2) hlt
          have m0 := keepAt hin.out.2 mz HM.out.1
          have hown := World.ownsRow.ext hin.out.1 (Ext.alc (Ext.refl wr) (.cells #[.int .i64 k, .int .i64 ((k : Int) + w), .int .i64 (d k)] 126))
          go_wp2_with (at_builtin; refine wpList_append_own _ rfl _ _ 124 rfl W1.heap.size 126 i0 (.agg #[.int .i64 0, .int .i64 0, .int .i64 0]) 3 24 Try.underlying124 HI.out.1 HI.out.2.1 HI.out.2.2.1 HI.out.2.2.2 rfl (by decide) _ (nr + k) _ rfl hown ⟨wr.heap.size, 0, none⟩ 1 1 [.int .i64 k, .int .i64 ((k : Int) + w), .int .i64 (d k)] rfl rfl ?c1 ?c2 ?c3 ?c4 ?c5 ?_)
          case c1 =>
            intro jj uu hj
            match jj, hj with
            | 0, hj => simp at hj; subst hj; simp [Addr.add]
            | 1, hj => simp at hj; subst hj; simp [Addr.add]
            | 2, hj => simp at hj; subst hj; simp [Addr.add]
            | jj + 3, hj => simp at hj
          case c2 => intro uu hu; simp at hu; rcases hu with rfl | rfl | rfl <;> rfl
          case c3 => unfold maxLen; omega
          case c4 => omega
          case c5 => have := hin.out.2.size; simp; omega
          intro v' w2 hown' hgrow _hnil
          clear _hnil
          have hex : Ext W1 w2 := ext_grow (hin.out.2.alc _) hgrow (fun b' hb' => (World.ownsRow.lt hown b' hb').1) (Nat.le_refl _)
          have HN := Lib.hid (And.intro hown' hex)
          clear hown' hex hgrow hown
          clear m0 e2
          go_wp2
          go_roundw
          case rel =>
            refine ⟨k + 1, by go_num, by omega, Lib.hid ⟨?_, HN.out.2⟩⟩
            obtain ⟨y1, y2, y3⟩ := HAG.out k
            rw [show nr + (k + 1) = nr + k + 1 by omega, acl_succ, y1, y2, y3]
            exact HN.out.1
          case measure => simp [intOf]; omega
        · obtain rfl : nd = k := by omega
          have hR : wr.ownsRow W.heap.size 126 3 (.slice Aw (nr + nd) cw) a.n (acl a a.n) := own_mono (by rw [HAN.out]; exact hin.out.1) HB.out.size
          have HR := Lib.hid hR
          clear hR
          go_wp2
          go_ret
          exact ⟨_, rfl, HR.out, HB.out.trans hin.out.2⟩
theorem Al.own126 {W : World} {base : Nat} {v : Value} {a : Ar} (h : W.ownsRow base 126 3 v a.n (acl a a.n)) : Al W v a := by
  obtain ⟨hl, ⟨rfl, h0⟩ | ⟨g, cap, cur, rfl, hg, hh, h1, h2, h3, h4⟩⟩ := h
  · exact ⟨none, 0, by rw [h0], by omega, by omega, fun hp => by omega⟩
  · refine ⟨_, cap, rfl, h1, by simp only [maxLen] at h2; omega, fun hp => ⟨g, 0, rfl, (Array.getElem?_eq_some_iff.1 hh).1, fun j hj => ?_⟩⟩
    have key : ∀ i u, (acl a a.n)[i]? = some u → i < a.n * 3 → W.cell? ⟨g, 0 + i, none⟩ = some u := by
      intro i u hu hi
      rw [← h4, List.getElem?_take, if_pos hi] at hu
      rw [Nat.zero_add, cell_of_row W g i cur 126 (0, 0) hh]
      simpa using hu
    obtain ⟨k1, k2, k3⟩ := acl_get a hj
    exact ⟨key _ _ k1 (by omega), key _ _ k2 (by omega), key _ _ k3 (by omega)⟩
theorem pairsR_any (c : Cl) (V : Value) (W : World) (hV : Kl W V c) (hc : vCl c = true) :
    Calls Try.prog 86 #[V] W fun e W' => ∃ U, e = .returned U ∧ Al W' U c.prs ∧ Ext W W' := by
  refine (pairsR_own c V W hV hc).mono ?_
  rintro e w ⟨U, rfl, h, hx⟩
  exact ⟨U, rfl, Al.own126 h, hx⟩
end Go.Proofs.Ytilcbbdmenknfaa
