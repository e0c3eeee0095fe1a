/- Two rows of flags grown side by side; the least sides' lattice. · The law WaxModular. -/
import Derived.Test.YtilcbbdmenknfaaM17
import Derived.Maps.AppendAt
namespace Go.Proofs.Ytilcbbdmenknfaa
open Go.RowKit

theorem mins_mem {G : Nw} {N k n : Nat} {v : Int} : k ∈ mins G N v n ↔ k < n ∧ G.ct (numb N k) = v := by unfold mins; simp
theorem ct_modular (G : Nw) (hc : ∀ k, k < G.m → 0 ≤ G.cp k) (S T : Nat → Bool) : G.ct (fun v => S v && T v) + G.ct (fun v => S v || T v) ≤ G.ct S + G.ct T := by
  unfold Nw.ct
  rw [← sm_add, ← sm_add]
  refine sm_le fun k hk => ?_
  have := hc k hk
  dsimp only
  have tt : ∀ a b c d : Bool, (if (a && c) = true ∧ (b && d) = false then G.cp k else 0) + (if (a || c) = true ∧ (b || d) = false then G.cp k else 0) ≤ (if a = true ∧ b = false then G.cp k else 0) + (if c = true ∧ d = false then G.cp k else 0) := by
    intro a b c d
    cases a <;> cases b <;> cases c <;> cases d <;> simp <;> omega
  exact tt _ _ _ _
theorem Mc.both {G : Nw} {s t : Nat} {v : Int} (hc : ∀ k, k < G.m → 0 ≤ G.cp k) (h : Mc G s t v) {S T : Nat → Bool} (hS : Nw.Sd s t S) (hT : Nw.Sd s t T) (h1 : G.ct S = v) (h2 : G.ct T = v) :
    G.ct (fun v => S v && T v) = v ∧ G.ct (fun v => S v || T v) = v := by
  have h3 := ct_modular G hc S T
  have h4 := h.le (fun v => S v && T v) ⟨by simp [hS.1, hT.1], by simp [hS.2]⟩
  have h5 := h.le (fun v => S v || T v) ⟨by simp [hS.1], by simp [hS.2, hT.2]⟩
  omega
/-- among the listed sides is each minimum side -/
theorem mins_has {G : Nw} {N : Nat} {v : Int} (hN : 2 ≤ N) (hin : G.In N) {S : Nat → Bool} (hS : Nw.Sd 0 (N - 1) S) (hv : G.ct S = v) : ∃ i, i < (mins G N v (2 ^ (N - 2))).length ∧ ∀ u, u < N → numb N ((mins G N v (2 ^ (N - 2))).getD i 0) u = S u := by
  obtain ⟨k, hk, hkS⟩ := numb_ex hN hS
  have : k ∈ mins G N v (2 ^ (N - 2)) := mins_mem.2 ⟨hk, by rw [← hv]; exact G.ct_congr hin hkS⟩
  obtain ⟨i, hi, he⟩ := List.mem_iff_getElem.1 this
  refine ⟨i, hi, fun u hu => ?_⟩
  rw [List.getD_eq_getElem?_getD, List.getElem?_eq_getElem hi, he]
  exact hkS u hu
theorem mins_lattice {G : Nw} {N : Nat} {v : Int} (hN : 2 ≤ N) (hin : G.In N) (hc : ∀ k, k < G.m → 0 ≤ G.cp k) (h : Mc G 0 (N - 1) v) {ks : List Nat} (hks : ks = mins G N v (2 ^ (N - 2))) {p q : Nat} (hp : p < ks.length) (hq : q < ks.length) :
    (∃ i, i < ks.length ∧ ∀ u, u < N → numb N (ks.getD i 0) u = (numb N (ks.getD p 0) u && numb N (ks.getD q 0) u)) ∧ ∃ i, i < ks.length ∧ ∀ u, u < N → numb N (ks.getD i 0) u = (numb N (ks.getD p 0) u || numb N (ks.getD q 0) u) := by
  have key : ∀ r, r < ks.length → G.ct (numb N (ks.getD r 0)) = v := by
    intro r hr
    have : ks.getD r 0 ∈ ks := by rw [List.getD_eq_getElem?_getD, List.getElem?_eq_getElem hr]; exact List.getElem_mem hr
    generalize ks.getD r 0 = y at this ⊢
    rw [hks] at this
    exact (mins_mem.1 this).2
  obtain ⟨e1, e2⟩ := h.both hc (numb_sd (ks.getD p 0) hN) (numb_sd (ks.getD q 0) hN) (key p hp) (key q hq)
  have s1 := numb_sd (ks.getD p 0) hN
  have s2 := numb_sd (ks.getD q 0) hN
  have h1 := mins_has hN hin (S := fun u => numb N (ks.getD p 0) u && numb N (ks.getD q 0) u) ⟨by dsimp only; rw [s1.1, s2.1]; rfl, by dsimp only; rw [s1.2]; rfl⟩ e1
  have h2 := mins_has hN hin (S := fun u => numb N (ks.getD p 0) u || numb N (ks.getD q 0) u) ⟨by dsimp only; rw [s1.1]; rfl, by dsimp only; rw [s1.2, s2.2]; rfl⟩ e2
  rw [← hks] at h1 h2
  exact ⟨h1, h2⟩

/-- some of the first k -/
def anyTo (f : Nat → Bool) (k : Nat) : Bool := (List.range k).any f
theorem anyTo_succ (f : Nat → Bool) (k : Nat) : anyTo f (k + 1) = (anyTo f k || f k) := by simp [anyTo, List.range_succ]
theorem anyTo_true {f : Nat → Bool} {n i : Nat} (hi : i < n) (h : f i = true) : anyTo f n = true := List.any_eq_true.2 ⟨i, List.mem_range.2 hi, h⟩

def bl (k : Nat) (s : Nat → Bool) : List Value := (List.range k).map fun j => Value.bool (s j)
theorem bl_succ (k : Nat) (s : Nat → Bool) : bl (k + 1) s = bl k s ++ [Value.bool (s k)] := by simp [bl, List.range_succ]
theorem ownsRow_bl {w : World} {base n : Nat} {v : Value} {s : Nat → Bool} (h : w.ownsRow base 4 1 v n (bl n s)) : Bl w v n s := by
  obtain ⟨h1, ⟨rfl, h2⟩ | ⟨g, cap, cur, rfl, hb, hh, h5, h6, h7, h8⟩⟩ := h
  · have : n = 0 := by omega
    subst this
    exact ⟨none, 0, rfl, Nat.le_refl _, by omega, fun h => by omega⟩
  · refine ⟨_, cap, rfl, by omega, by simp only [maxLen] at *; omega, fun hp => ⟨g, 0, rfl, (Array.getElem?_eq_some_iff.1 hh).1, fun j hj => ?_⟩⟩
    rw [Nat.zero_add, cell_of_row w g j cur 4 (0, 0) hh]
    have h11 : (bl n s)[j]? = some (.bool (s j)) := by unfold bl; rw [List.getElem?_map, List.getElem?_range hj]; rfl
    rw [← h8, List.getElem?_take, if_pos (by omega)] at h11
    simpa using h11
theorem ownsRow_far {w w' : World} {base n size : Nat} {e : TypeId} {v : Value} {xs : List Value} {r : Option Nat} (h : w.ownsRow base e size v n xs) (hg : w.grownBy w' r) (hne : ∀ b, v.ownBlock = some b → r ≠ some b) : w'.ownsRow base e size v n xs := by
  obtain ⟨h1, h2 | ⟨g, cap, cur, rfl, hb, hh, rest⟩⟩ := h
  · exact ⟨h1, .inl h2⟩
  · exact ⟨h1, .inr ⟨g, cap, cur, rfl, hb, (hg.block g (Array.getElem?_eq_some_iff.1 hh).1 (fun e => hne g rfl e.symm)).trans hh, rest⟩⟩
theorem ext_of_grow {X w w' : World} {base : Nat} {r : Option Nat} (e : Ext X w) (hg : w.grownBy w' r) (hr : ∀ b, r = some b → base ≤ b) (hb : X.heap.size ≤ base) : Ext X w' :=
  ⟨hg.os.trans e.os, hg.tape.trans e.tape, hg.output.trans e.output, Nat.le_trans e.size hg.size, fun b hb' => (hg.block b (Nat.lt_of_lt_of_le hb' e.size) (fun e2 => by have := hr b e2.symm; omega)).trans (e.block b hb')⟩
/-- two rows of flags of the call's own, in blocks of their own -/
structure Tw (w : World) (base : Nat) (u v : Value) (k l : Nat) (s t : Nat → Bool) : Prop where
  fst : w.ownsRow base 4 1 u k (bl k s)
  snd : w.ownsRow base 4 1 v l (bl l t)
  ne : ∀ b, u.ownBlock = some b → v.ownBlock ≠ some b
  le : base ≤ w.heap.size
theorem Tw.symm {w : World} {base : Nat} {u v : Value} {k l : Nat} {s t : Nat → Bool} (h : Tw w base u v k l s t) : Tw w base v u l k t s := ⟨h.snd, h.fst, fun b hb hu => h.ne b hu hb, h.le⟩
theorem Tw.ext {w x : World} {base : Nat} {u v : Value} {k l : Nat} {s t : Nat → Bool} (h : Tw w base u v k l s t) (e : Ext w x) : Tw x base u v k l s t := ⟨World.ownsRow.ext h.fst e, World.ownsRow.ext h.snd e, h.ne, Nat.le_trans h.le e.size⟩
theorem Tw.nil (w : World) (s t : Nat → Bool) : Tw w w.heap.size (.slice none 0 0) (.slice none 0 0) 0 0 s t := ⟨World.ownsRow_nil _ _ _ _, World.ownsRow_nil _ _ _ _, fun b h => by simp [Value.ownBlock] at h, Nat.le_refl _⟩
/-- one flag more onto the first -/
theorem Tw.one {w x : World} {base : Nat} {u v u' : Value} {k l : Nat} {s t : Nat → Bool} (h : Tw w base u v k l s t) {z : Bool} (hz : s k = z) (o : x.ownsRow base 4 1 u' (k + 1) (bl k s ++ [Value.bool z])) (g : w.grownBy x u.ownBlock)
    (a : u'.ownBlock = u.ownBlock ∨ u'.ownBlock = some w.heap.size) : Tw x base u' v (k + 1) l s t ∧ ∀ X : World, Ext X w → X.heap.size ≤ base → Ext X x := by
  refine ⟨⟨by rw [bl_succ, hz]; exact o, ownsRow_far h.snd g (fun b hb e => h.ne b e hb), fun b hb => ?_, Nat.le_trans h.le g.size⟩, fun X e hX => ext_of_grow e g (fun b hb => (World.ownsRow.lt h.fst b hb).1) hX⟩
  rcases a with e | e
  · exact h.ne b (by rw [← e]; exact hb)
  · intro hv
    rw [e] at hb
    injection hb with hb
    have := (World.ownsRow.lt h.snd b hv).2
    omega
end Go.Proofs.Ytilcbbdmenknfaa
namespace Go.Proofs.Ytilcbbdmenknfaa
open Go.RowKit

/-- is the labelling's energy defined? -/
def okE (c : Cl) (ri : Int) (n : Nat) : Bool := vCl c && bw ri (-10000) 10000 && decide (n = c.nb)
theorem energyS (c : Cl) (ri : Int) (n : Nat) (l : Nat → Bool) (V LV : Value) (W : World) (hV : Kl W V c) (hL : Bl W LV n l) :
    Calls Try.prog 38 #[V, .int .i64 ri, LV] W fun e W' => ∃ (v er : Int), e = .returned (.tuple #[.int .i64 v, .int .i64 er]) ∧ Ext W W' ∧
      ((okE c ri n = false ∧ er ≠ 0) ∨ (okE c ri n = true ∧ er = 0 ∧ v = c.en ri l)) := by
  refine (energy_any c ri n l V LV W hV hL).mono ?_
  rintro e w ⟨v, er, rfl, hx, h | h | h⟩
  · exact ⟨v, er, rfl, hx, .inl ⟨by unfold okE; rw [h.1]; rfl, by rw [h.2.2]; decide⟩⟩
  · exact ⟨v, er, rfl, hx, .inl ⟨by unfold okE; rw [h.1, decide_eq_false h.2.1]; rfl, by rw [h.2.2.2]; decide⟩⟩
  · exact ⟨v, er, rfl, hx, .inr ⟨by unfold okE; rw [h.1, decide_eq_true h.2.1]; rfl, h.2.2.1, h.2.2.2⟩⟩
theorem okE_ok {c : Cl} {ri : Int} {n : Nat} (h : okE c ri n = true) : vCl c = true ∧ (-10000 ≤ ri ∧ ri ≤ 10000) ∧ n = c.nb := by
  unfold okE at h
  rw [Bool.and_eq_true, Bool.and_eq_true, bw_iff, decide_eq_true_iff] at h
  exact ⟨h.1.1, h.1.2, h.2⟩
theorem en_bd {c : Cl} {ri : Int} (hc : vCl c = true) (h1 : -10000 ≤ ri) (h2 : ri ≤ 10000) (l : Nat → Bool) : -2000000 ≤ c.en ri l ∧ c.en ri l ≤ 2000000 := by
  obtain ⟨⟨v1, v2⟩, ⟨v3, v4⟩, ⟨v5, v6⟩, ⟨v7, v8⟩, ⟨v9, -⟩, ⟨v11, -⟩⟩ := vCl_ok hc
  have hnb36 : c.nb ≤ 36 := by have h1 := (side_prod (show 0 ≤ c.w by omega) v2 (show 0 ≤ c.h by omega) v4).2; omega
  have hnr30 : c.nr ≤ 30 := by have h1 := (side_prod (show 0 ≤ c.w - 1 by omega) (show c.w - 1 ≤ 5 by omega) (show 0 ≤ c.h by omega) v4).2; omega
  have hnd30 : c.nd ≤ 30 := by have h1 := (side_prod (show 0 ≤ c.w by omega) v2 (show 0 ≤ c.h - 1 by omega) (show c.h - 1 ≤ 5 by omega)).2; omega
  have hprn : c.prs.n ≤ 60 := by show c.nr + c.nd ≤ 60; omega
  have a1 := sm_abs (n := c.nb) (f := c.dt ri l) (fun k hk => by
    have h5 := v6 k hk; have h6 := v8 k (by omega)
    unfold Cl.dt
    split <;> omega)
  have a2 := sm_abs (n := c.prs.n) (f := c.pt l) (fun k hk => by
    obtain ⟨u, v, -, -, -, -, h5, h6⟩ := prs_in hc hk
    unfold Cl.pt
    split <;> omega)
  unfold Cl.en
  omega
theorem bool_news (w : World) (z : Bool) : ∀ j u, [Value.bool z][j]? = some u → (w.alloc (.cells #[.bool z] 4)).cell? ((⟨w.heap.size, 0, none⟩ : Addr).add j) = some u := by
  intro j u hj
  match j, hj with
  | 0, hj =>
    simp at hj
    subst hj
    rw [Addr.add_lit, World.cell?_alloc_new]
    rfl
  | j + 1, hj => simp at hj
theorem bool_one (z : Bool) : ∀ u ∈ [Value.bool z], u.oneCell' = true := by
  intro u hu
  simp at hu
  subst hu
  rfl
theorem own_shape {w : World} {base : Nat} {e : TypeId} {size n : Nat} {v : Value} {xs : List Value} (h : w.ownsRow base e size v n xs) : ∃ A m c, v = .slice A m c := by
  obtain ⟨-, ⟨rfl, -⟩ | ⟨g, cap, cur, rfl, -⟩⟩ := h
  · exact ⟨_, _, _, rfl⟩
  · exact ⟨_, _, _, rfl⟩

set_option maxHeartbeats 4000000 in
set_option maxRecDepth 100000 in
theorem waxModular_walk (c : Cl) (ri : Int) (na nb : Nat) (S T : Nat → Bool) (V LA LB : Value) (W : World) (hV : Kl W V c) (hA : Bl W LA na S) (hB : Bl W LB nb T) :
    Calls Try.prog 13 #[V, .int .i64 ri, LA, LB] W fun e W' => e = .returned (.bool true) ∧ Ext W W' := by
  have HV := Lib.hid hV; have HA := Lib.hid hA; have HBB := Lib.hid hB
  obtain ⟨A1, cLa, rfl, hc1, hd1, -⟩ := hA
  obtain ⟨A2, cLb, rfl, hc2, hd2, -⟩ := hB
  obtain ⟨B, X, R, D, rfl, -, -, -, -⟩ := hV
  obtain ⟨w, hw⟩ : ∃ w, w = c.w := ⟨_, rfl⟩
  obtain ⟨h, hh⟩ : ∃ h, h = c.h := ⟨_, rfl⟩
  rw [← hw, ← hh] at HV ⊢
  clear hw hh
  obtain ⟨C, hC⟩ : ∃ C, C = c.cut := ⟨_, rfl⟩
  have hcl : ∀ X1, Ext W X1 → Calls Try.prog 39 #[.agg #[.int .i64 w, .int .i64 h, B, X, R, D]] X1 fun e W' => ∃ U, e = .returned U ∧ Kl W' U C ∧ Ext X1 W' := fun X1 hX1 => by
    rw [hC]; exact cloth_any c _ X1 (HV.out.ext hX1)
  have HCL := Lib.hid hcl
  clear hcl hC
  go_enter Try.func13, Try.ntmps13
  go_upto_region 1 with fail
  have bb := al1 W (.cells #[.int .i64 w, .int .i64 h, B, X, R, D] 68)
  obtain ⟨m0, m1, m2, m3, m4, m5, mz, -⟩ := six (heap_alloc_new W (.cells #[.int .i64 w, .int .i64 h, B, X, R, D] 68))
  generalize W.alloc (.cells #[.int .i64 w, .int .i64 h, B, X, R, D] 68) = W1 at *
  have HB : Hid (Ext W W1) := Lib.hid bb
  have HM := Lib.hid (And.intro m0 (And.intro m1 (And.intro m2 (And.intro m3 (And.intro m4 m5)))))
  clear bb
  go_wp2_with fail
  refine (HCL.out _ HB.out).mono ?_
  clear m0 m1 m2 m3 m4 m5
  rintro e w1a ⟨U1, rfl, hk, hx⟩
  have HK1 := Lib.hid hk
  have HY1 : Hid (Ext W1 w1a) := Lib.hid hx
  clear hk hx
  go_wp2_with fail
  refine (energyS C ri na S U1 _ _ HK1.out (HA.out.ext (HB.out.trans HY1.out))).mono ?_
  rintro e w1 ⟨v1, e1, rfl, hx, h1⟩
  have HX1 : Hid (Ext W1 w1) := Lib.hid (HY1.out.trans hx)
  clear hx
  have HE1 := Lib.hid h1
  clear h1 HY1 HK1
  have m0 := keepAt HX1.out mz HM.out.1
  have m1 := keepAt HX1.out mz HM.out.2.1
  have m2 := keepAt HX1.out mz HM.out.2.2.1
  have m3 := keepAt HX1.out mz HM.out.2.2.2.1
  have m4 := keepAt HX1.out mz HM.out.2.2.2.2.1
  have m5 := keepAt HX1.out mz HM.out.2.2.2.2.2
  go_wp2_with fail
  refine (HCL.out _ (HB.out.trans HX1.out)).mono ?_
  clear m0 m1 m2 m3 m4 m5
  rintro e w2a ⟨U2, rfl, hk, hx⟩
  have HK2 := Lib.hid hk
  have HY2 : Hid (Ext W1 w2a) := Lib.hid (HX1.out.trans hx)
  clear hk hx
  go_wp2_with fail
  refine (energyS C ri nb T U2 _ _ HK2.out (HBB.out.ext (HB.out.trans HY2.out))).mono ?_
  rintro e w2 ⟨v2, e2, rfl, hx, h2⟩
  have HX2 : Hid (Ext W1 w2) := Lib.hid (HY2.out.trans hx)
  clear hx
  have HE2 := Lib.hid h2
  clear h2 HY2 HK2
  obtain ⟨o1, z1⟩ | ⟨o1, rfl, rfl⟩ := HE1.out
  · clear o1
    have z1b : (e1 == 0) = false := by simp; exact z1
    have z1c : (e1 != 0) = true := by simp; exact z1
    go_wp2_with fail
    refine (awake_any _).mono ?_
    rintro e w9 ⟨rfl, hx⟩
    have EF : Hid (Ext W w9) := Lib.hid (HB.out.trans (HX2.out.trans hx)); clear hx
    go_wp2
    go_ret
    exact ⟨rfl, EF.out⟩
  · obtain ⟨o2, z2⟩ | ⟨o2, rfl, rfl⟩ := HE2.out
    · clear o1 o2
      have z2b : (e2 == 0) = false := by simp; exact z2
      have z2c : (e2 != 0) = true := by simp; exact z2
      go_wp2_with fail
      refine (awake_any _).mono ?_
      rintro e w9 ⟨rfl, hx⟩
      have EF : Hid (Ext W w9) := Lib.hid (HB.out.trans (HX2.out.trans hx)); clear hx
      go_wp2
      go_ret
      exact ⟨rfl, EF.out⟩
    · obtain ⟨k1, ⟨k2, k3⟩, k4⟩ := okE_ok o1
      have k5 := (okE_ok o2).2.2
      have hnab : na = nb := by rw [k4, k5]
      obtain ⟨d1, d2⟩ := en_bd k1 k2 k3 S
      obtain ⟨d3, d4⟩ := en_bd k1 k2 k3 T
      have hnb36 : na ≤ 36 := by
        obtain ⟨⟨q1, q2⟩, ⟨q3, q4⟩, ⟨q5, -⟩, -⟩ := vCl_ok k1
        have h1 := (side_prod (show 0 ≤ C.w by omega) q2 (show 0 ≤ C.h by omega) q4).2
        omega
      obtain ⟨both, hboth⟩ : ∃ f : Nat → Bool, f = fun u => S u && T u := ⟨_, rfl⟩
      obtain ⟨some_, hsome⟩ : ∃ f : Nat → Bool, f = fun u => S u || T u := ⟨_, rfl⟩
      have hsub := en_sub k1 ri S T
      rw [← hboth, ← hsome] at hsub
      have HB1 : Hid ((∀ u, both u = (S u && T u)) ∧ ∀ u, some_ u = (S u || T u)) := Lib.hid ⟨fun u => by rw [hboth], fun u => by rw [hsome]⟩
      obtain ⟨d5, d6⟩ := en_bd k1 k2 k3 both
      obtain ⟨d7, d8⟩ := en_bd k1 k2 k3 some_
      obtain ⟨xS, hxS⟩ : ∃ x, x = C.en ri S := ⟨_, rfl⟩
      obtain ⟨xT, hxT⟩ : ∃ x, x = C.en ri T := ⟨_, rfl⟩
      obtain ⟨xB, hxB⟩ : ∃ x, x = C.en ri both := ⟨_, rfl⟩
      obtain ⟨xO, hxO⟩ : ∃ x, x = C.en ri some_ := ⟨_, rfl⟩
      rw [← hxS, ← hxT, ← hxB, ← hxO] at hsub
      rw [← hxS] at d1 d2 ⊢
      rw [← hxT] at d3 d4 ⊢
      rw [← hxB] at d5 d6
      rw [← hxO] at d7 d8
      have HXX := Lib.hid (And.intro hxB hxO)
      have HOK := Lib.hid o1
      have HSUB := Lib.hid hsub
      subst hnab
      clear o1 o2 k1 k2 k3 k4 k5 hboth hsome hxS hxT hxB hxO hsub HE1 HE2
      obtain ⟨i0, hi, hz0, hz1, hz2⟩ := info_parts info4
      have HI := Lib.hid (And.intro hi (And.intro hz0 (And.intro hz1 hz2)))
      clear hi hz0 hz1 hz2
      go_wp2_with fail
      go_loopw [13, 14, 59] (fun qa qb i wr => ∃ k : Nat, i = .int .i64 k ∧ k ≤ na ∧ Hid (Tw wr w2.heap.size qa qb k k both some_ ∧ Ext w2 wr)) (fun _ _ i _ => na - (intOf i).toNat)
      case atStart => exact ⟨0, rfl, Nat.zero_le _, Lib.hid ⟨Tw.nil w2 _ _, Ext.refl _⟩⟩
      case round =>
        obtain ⟨k, rfl, hk, hin⟩ := hrel
        obtain ⟨qa, rfl⟩ : ∃ q, q = u13 := ⟨_, rfl⟩
        obtain ⟨qb, rfl⟩ : ∃ q, q = u14 := ⟨_, rfl⟩
        by_cases hlt : k < na
        · obtain ⟨b1, o1_, rfl, -, cpk⟩ := Vl.at HA.out (HB.out.trans (HX2.out.trans hin.out.2)) hlt
          obtain ⟨b2, o2_, rfl, -, cqk⟩ := Vl.at HBB.out (HB.out.trans (HX2.out.trans hin.out.2)) hlt
          obtain ⟨x, hx⟩ : ∃ x, x = S k := ⟨_, rfl⟩
          obtain ⟨y, hy⟩ : ∃ y, y = T k := ⟨_, rfl⟩
          rw [← hx] at cpk
          rw [← hy] at cqk
          have HXY := Lib.hid (And.intro hx hy)
          clear hx hy
          cases x
          · have HT : Hid (Tw (wr.alloc (.cells #[.bool false] 4)) w2.heap.size qa qb k k both some_) := Lib.hid (hin.out.1.ext (Ext.alc (Ext.refl wr) _))
            have HSZ : Hid (w2.heap.size ≤ wr.heap.size) := Lib.hid hin.out.1.le
            have hqa := own_shape HT.out.fst
            obtain ⟨Aa, na_, ca, rfl⟩ := hqa
            have hqb := own_shape HT.out.snd
            obtain ⟨Ab, nb_, cb, rfl⟩ := hqb
            go_wp2_with (at_builtin; refine wpList_append_own_at _ rfl _ _ 40 rfl w2.heap.size 4 i0 (.bool false) 1 1 Try.underlying40 HI.out.1 HI.out.2.1 HI.out.2.2.1 HI.out.2.2.2 rfl (by decide) _ k _ rfl HT.out.fst ⟨wr.heap.size, 0, none⟩ 1 1 [.bool false] rfl rfl (bool_news _ false) (bool_one false) ?qc3 ?qc4 ?qc5 ?_)
            case qc3 => unfold maxLen; omega
            case qc4 => omega
            case qc5 => have := HSZ.out; simp; omega
            intro v1 x1 o1 g1 _n1 a1
            clear _n1
            have hone := HT.out.one (z := false) (by rw [HB1.out.1, ← HXY.out.1]; rfl) o1 g1 (by simpa using a1)
            have HT1 : Hid (Tw (x1.alloc (.cells #[.bool y] 4)) w2.heap.size (.slice Ab nb_ cb) v1 k (k + 1) some_ both) := Lib.hid (hone.1.symm.ext (Ext.alc (Ext.refl x1) _))
            have HE1 : Hid (Ext w2 (x1.alloc (.cells #[.bool y] 4)) ∧ Ext w2 x1) := Lib.hid ⟨Ext.alc (hone.2 w2 (Ext.alc hin.out.2 _) (Nat.le_refl _)) _, hone.2 w2 (Ext.alc hin.out.2 _) (Nat.le_refl _)⟩
            clear HSZ
            have HSZ : Hid (w2.heap.size ≤ x1.heap.size) := Lib.hid hone.1.le
            obtain ⟨b3, o3, e3, -, cq1⟩ := Vl.at HBB.out (HB.out.trans (HX2.out.trans HE1.out.2)) hlt
            injection e3 with e3
            injection e3 with e3 e4
            subst e3 e4
            rw [← HXY.out.2] at cq1
            clear o1 g1 a1 hone
            go_wp2_with (at_builtin; refine wpList_append_own_at _ rfl _ _ 40 rfl w2.heap.size 4 i0 (.bool false) 1 1 Try.underlying40 HI.out.1 HI.out.2.1 HI.out.2.2.1 HI.out.2.2.2 rfl (by decide) _ k _ rfl HT1.out.fst ⟨x1.heap.size, 0, none⟩ 1 1 [.bool y] rfl rfl (bool_news _ y) (bool_one y) ?qc3 ?qc4 ?qc5 ?_)
            case qc3 => unfold maxLen; omega
            case qc4 => omega
            case qc5 => have := HSZ.out; simp; omega
            intro v2 x2 o2 g2 _n2 a2
            clear _n2
            have hone := HT1.out.one (z := y) (by rw [HB1.out.2, ← HXY.out.1, ← HXY.out.2]; rfl) o2 g2 (by simpa using a2)
            have HT2 := Lib.hid (And.intro hone.1.symm (hone.2 w2 HE1.out.1 (Nat.le_refl _)))
            clear o2 g2 a2 hone cq1
            go_wp2
            go_roundw
            case rel => exact ⟨k + 1, by go_num, by omega, HT2⟩
            case measure => simp [intOf]; omega
          · have HT : Hid (Tw (wr.alloc (.cells #[.bool y] 4)) w2.heap.size qa qb k k both some_) := Lib.hid (hin.out.1.ext (Ext.alc (Ext.refl wr) _))
            have HSZ : Hid (w2.heap.size ≤ wr.heap.size) := Lib.hid hin.out.1.le
            have hqa := own_shape HT.out.fst
            obtain ⟨Aa, na_, ca, rfl⟩ := hqa
            have hqb := own_shape HT.out.snd
            obtain ⟨Ab, nb_, cb, rfl⟩ := hqb
            go_wp2_with (at_builtin; refine wpList_append_own_at _ rfl _ _ 40 rfl w2.heap.size 4 i0 (.bool false) 1 1 Try.underlying40 HI.out.1 HI.out.2.1 HI.out.2.2.1 HI.out.2.2.2 rfl (by decide) _ k _ rfl HT.out.fst ⟨wr.heap.size, 0, none⟩ 1 1 [.bool y] rfl rfl (bool_news _ y) (bool_one y) ?qc3 ?qc4 ?qc5 ?_)
            case qc3 => unfold maxLen; omega
            case qc4 => omega
            case qc5 => have := HSZ.out; simp; omega
            intro v1 x1 o1 g1 _n1 a1
            clear _n1
            have hone := HT.out.one (z := y) (by rw [HB1.out.1, ← HXY.out.1, ← HXY.out.2]; rfl) o1 g1 (by simpa using a1)
            have HT1 : Hid (Tw (x1.alloc (.cells #[.bool true] 4)) w2.heap.size (.slice Ab nb_ cb) v1 k (k + 1) some_ both) := Lib.hid (hone.1.symm.ext (Ext.alc (Ext.refl x1) _))
            have HE1 : Hid (Ext w2 (x1.alloc (.cells #[.bool true] 4)) ∧ Ext w2 x1) := Lib.hid ⟨Ext.alc (hone.2 w2 (Ext.alc hin.out.2 _) (Nat.le_refl _)) _, hone.2 w2 (Ext.alc hin.out.2 _) (Nat.le_refl _)⟩
            clear HSZ
            have HSZ : Hid (w2.heap.size ≤ x1.heap.size) := Lib.hid hone.1.le
            obtain ⟨b3, o3, e3, -, cq1⟩ := Vl.at HBB.out (HB.out.trans (HX2.out.trans HE1.out.2)) hlt
            injection e3 with e3
            injection e3 with e3 e4
            subst e3 e4
            rw [← HXY.out.2] at cq1
            clear o1 g1 a1 hone
            go_wp2_with (at_builtin; refine wpList_append_own_at _ rfl _ _ 40 rfl w2.heap.size 4 i0 (.bool false) 1 1 Try.underlying40 HI.out.1 HI.out.2.1 HI.out.2.2.1 HI.out.2.2.2 rfl (by decide) _ k _ rfl HT1.out.fst ⟨x1.heap.size, 0, none⟩ 1 1 [.bool true] rfl rfl (bool_news _ true) (bool_one true) ?qc3 ?qc4 ?qc5 ?_)
            case qc3 => unfold maxLen; omega
            case qc4 => omega
            case qc5 => have := HSZ.out; simp; omega
            intro v2 x2 o2 g2 _n2 a2
            clear _n2
            have hone := HT1.out.one (z := true) (by rw [HB1.out.2, ← HXY.out.1]; rfl) o2 g2 (by simpa using a2)
            have HT2 := Lib.hid (And.intro hone.1.symm (hone.2 w2 HE1.out.1 (Nat.le_refl _)))
            clear o2 g2 a2 hone cq1
            go_wp2
            go_roundw
            case rel => exact ⟨k + 1, by go_num, by omega, HT2⟩
            case measure => simp [intOf]; omega
        · have hT := hin.out.1
          obtain rfl : na = k := by omega
          have hnl : ¬ (na : Int) < na := by omega
          obtain ⟨wo, rfl⟩ : ∃ w, w = wr := ⟨_, rfl⟩
          have hqa := own_shape hT.fst
          have hqb := own_shape hT.snd
          have HQA := Lib.hid (And.intro (ownsRow_bl hT.fst) (ownsRow_bl hT.snd))
          have HXO : Hid (Ext W1 wo) := Lib.hid (HX2.out.trans hin.out.2)
          obtain ⟨Aa, na_, ca, rfl⟩ := hqa
          obtain ⟨Ab, nb_, cb, rfl⟩ := hqb
          clear hT hin
          have m0 := keepAt HXO.out mz HM.out.1
          have m1 := keepAt HXO.out mz HM.out.2.1
          have m2 := keepAt HXO.out mz HM.out.2.2.1
          have m3 := keepAt HXO.out mz HM.out.2.2.2.1
          have m4 := keepAt HXO.out mz HM.out.2.2.2.2.1
          have m5 := keepAt HXO.out mz HM.out.2.2.2.2.2
          go_wp2_with fail
          refine (HCL.out _ (HB.out.trans HXO.out)).mono ?_
          clear m0 m1 m2 m3 m4 m5
          rintro e w3a ⟨U3, rfl, hk, hx⟩
          have HK3 := Lib.hid hk
          have HY3 : Hid (Ext W1 w3a ∧ Ext wo w3a) := Lib.hid ⟨HXO.out.trans hx, hx⟩
          clear hk hx
          go_wp2_with fail
          refine (energyS C ri na both U3 _ _ HK3.out (HQA.out.1.ext HY3.out.2)).mono ?_
          rintro e w3 ⟨v3, e3, rfl, hx, h3⟩
          have HX3 : Hid (Ext W1 w3) := Lib.hid (HY3.out.1.trans hx)
          have HZ3 : Hid (Ext wo w3) := Lib.hid (HY3.out.2.trans hx)
          clear hx
          rcases h3 with ⟨o1, -⟩ | ⟨-, rfl, rfl⟩
          · rw [HOK.out] at o1; cases o1
          rw [← HXX.out.1]
          have m0 := keepAt HX3.out mz HM.out.1
          have m1 := keepAt HX3.out mz HM.out.2.1
          have m2 := keepAt HX3.out mz HM.out.2.2.1
          have m3 := keepAt HX3.out mz HM.out.2.2.2.1
          have m4 := keepAt HX3.out mz HM.out.2.2.2.2.1
          have m5 := keepAt HX3.out mz HM.out.2.2.2.2.2
          go_wp2_with fail
          refine (HCL.out _ (HB.out.trans HX3.out)).mono ?_
          clear m0 m1 m2 m3 m4 m5
          rintro e w4a ⟨U4, rfl, hk, hx⟩
          have HK4 := Lib.hid hk
          have HY4 : Hid (Ext W1 w4a ∧ Ext wo w4a) := Lib.hid ⟨HX3.out.trans hx, HZ3.out.trans hx⟩
          clear hk hx
          go_wp2_with fail
          refine (energyS C ri na some_ U4 _ _ HK4.out (HQA.out.2.ext HY4.out.2)).mono ?_
          rintro e w4 ⟨v4, e4, rfl, hx, h4⟩
          have HX4 : Hid (Ext W1 w4) := Lib.hid (HY4.out.1.trans hx)
          have HZ4 : Hid (Ext wo w4) := Lib.hid (HY4.out.2.trans hx)
          clear hx
          rcases h4 with ⟨o1, -⟩ | ⟨-, rfl, rfl⟩
          · rw [HOK.out] at o1; cases o1
          rw [← HXX.out.2]
          have hle := HSUB.out
          go_wp2_with fail
          refine (awake_any _).mono ?_
          rintro e w9 ⟨rfl, hx⟩
          have EF : Hid (Ext W w9) := Lib.hid (HB.out.trans (HX4.out.trans hx)); clear hx
          go_wp2
          go_ret
          exact ⟨rfl, EF.out⟩
end Go.Proofs.Ytilcbbdmenknfaa
