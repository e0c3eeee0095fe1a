/- Walks: Sides. · Two rows of flags grown side by side; the least sides' lattice. -/
import Derived.Test.YtilcbbdmenknfaaM14
import Derived.Test.YtilcbbdmenknfaaM13
import Derived.Maps.AppendAt
namespace Go.Proofs.Ytilcbbdmenknfaa
open Go.RowKit

theorem pow_shl (s : Nat) : (2 : Int) ^ s = ((2 ^ s : Nat) : Int) := by rw [Int.natCast_pow]; rfl
theorem shl_small (r : Nat) (h : r ≤ 10) : wrap64 ((2 : Int) ^ r) = ((2 ^ r : Nat) : Int) := by
  have h1 : 2 ^ r ≤ 1024 := Nat.le_trans (Nat.pow_le_pow_right (by omega) h) (by decide)
  rw [pow_shl]
  generalize 2 ^ r = P at *
  unfold wrap64
  omega


set_option maxRecDepth 100000 in
theorem info40 : (Try.prog.info? 40).map (fun i => (i.zero, i.size, i.bytes)) = some (some (.slice none 0 0), 1, 24) := by kernel_rfl

/-- the sides with the numbers ks lie at slice q, in blocks from base on -/
def Sdl (w : World) (base : Nat) (q : Value) (N : Nat) (ks : List Nat) : Prop :=
  ∃ gs : List Nat, gs.length = ks.length ∧ w.ownsRow base 40 1 q ks.length (gs.map fun g => .slice (some ⟨g, 0, none⟩) N N) ∧ ∀ i, i < ks.length → BB w (gs.getD i 0) N (numb N (ks.getD i 0))
theorem Sdl.ext {w w' : World} {base : Nat} {q : Value} {N : Nat} {ks : List Nat} (h : Sdl w base q N ks) (e : Ext w w') : Sdl w' base q N ks := by
  obtain ⟨gs, h1, h2, h3⟩ := h
  exact ⟨gs, h1, World.ownsRow.ext h2 e, fun i hi => (h3 i hi).ext e⟩
theorem own_ne {w : World} {base n N b : Nat} {q : Value} {xs : List Value} {s : Nat → Bool} (h : w.ownsRow base 40 1 q n xs) (hb : BB w b N s) : q.ownBlock ≠ some b := by
  intro e
  obtain ⟨-, ⟨rfl, -⟩ | ⟨g, cap, cur, rfl, -, hh, -⟩⟩ := h
  · simp [Value.ownBlock] at e
  · simp [Value.ownBlock] at e
    subst e
    unfold BB Bk at hb
    rw [hb] at hh
    simp at hh
theorem Sdl.more {w w' : World} {base N k g : Nat} {q q' : Value} {ks gs : List Nat} (h1 : gs.length = ks.length) (h2 : w.ownsRow base 40 1 q ks.length (gs.map fun g => .slice (some ⟨g, 0, none⟩) N N)) (h3 : ∀ i, i < ks.length → BB w (gs.getD i 0) N (numb N (ks.getD i 0)))
    (hg : BB w g N (numb N k)) (hq : w'.ownsRow base 40 1 q' (ks.length + 1) ((gs.map fun g => .slice (some ⟨g, 0, none⟩) N N) ++ [.slice (some ⟨g, 0, none⟩) N N])) (hgr : w.grownBy w' q.ownBlock) : Sdl w' base q' N (ks ++ [k]) := by
  have keep : ∀ b s, BB w b N s → BB w' b N s := fun b s hb => (hgr.block b (Bk.lt hb) (fun e => own_ne h2 hb e.symm)).trans hb
  refine ⟨gs ++ [g], by simp [h1], by rw [List.length_append, List.map_append]; exact hq, fun i hi => ?_⟩
  simp only [List.length_append, List.length_singleton] at hi
  simp only [List.getD_eq_getElem?_getD]
  by_cases e : i < ks.length
  · rw [List.getElem?_append_left (by omega), List.getElem?_append_left e]
    have := keep _ _ (h3 i e)
    simpa only [List.getD_eq_getElem?_getD] using this
  · have e2 : i = ks.length := by omega
    rw [List.getElem?_append_right (by omega), List.getElem?_append_right (by omega), h1, e2]
    simpa using keep _ _ hg

/-- the numbers of the minimum sides among the first k -/
def mins (G : Nw) (N : Nat) (v : Int) (k : Nat) : List Nat := (List.range k).filter fun i => decide (G.ct (numb N i) = v)
theorem mins_succ (G : Nw) (N : Nat) (v : Int) (k : Nat) : mins G N v (k + 1) = mins G N v k ++ (if G.ct (numb N k) = v then [k] else []) := by
  unfold mins
  rw [List.range_succ, List.filter_append]
  congr 1
  by_cases h : G.ct (numb N k) = v <;> simp [h]
theorem mins_len (G : Nw) (N : Nat) (v : Int) (k : Nat) : (mins G N v k).length ≤ k := Nat.le_trans (List.length_filter_le _ _) (by simp)

set_option maxHeartbeats 4000000 in
set_option maxRecDepth 100000 in
theorem sides_any (N : Int) (a : Ar) (AV : Value) (W : World) (hA : Al W AV a) :
    Calls Try.prog 28 #[.agg #[.int .i64 N, AV]] W fun e W' => ∃ (F : Value) (er : Int), e = .returned (.tuple #[F, .int .i64 er]) ∧ Ext W W' ∧
      ((vNet N a = false ∧ F = .slice none 0 0 ∧ er = 2) ∨ (vNet N a = true ∧ 12 < N ∧ F = .slice none 0 0 ∧ er = 3) ∨
        (vNet N a = true ∧ N ≤ 12 ∧ er = 0 ∧ ∃ v, Mc a.nw 0 (N.toNat - 1) v ∧ Sdl W' W.heap.size F N.toNat (mins a.nw N.toNat v (2 ^ (N.toNat - 2))))) := by
  have HA := Lib.hid hA
  obtain ⟨A, c, rfl, hac, hcm, -⟩ := hA
  go_enter Try.func28, Try.ntmps28
  go_upto_region 1 with fail
  have bb := al1 W (.cells #[.int .i64 N, .slice A a.n c] 30)
  have m0 : (W.alloc (.cells #[.int .i64 N, .slice A a.n c] 30)).cell? ⟨W.heap.size, 0, none⟩ = some (.int .i64 N) := by rw [World.cell?_alloc_new]; rfl
  have m1 : (W.alloc (.cells #[.int .i64 N, .slice A a.n c] 30)).cell? ⟨W.heap.size, 1, none⟩ = some (.slice A a.n c) := by rw [World.cell?_alloc_new]; rfl
  have zz : W.heap.size < (W.alloc (.cells #[.int .i64 N, .slice A a.n c] 30)).heap.size := by simp
  generalize W.alloc (.cells #[.int .i64 N, .slice A a.n c] 30) = W1 at *
  have HB : Hid (Ext W W1) := Lib.hid bb
  have HM := Lib.hid (And.intro m0 m1)
  clear bb
  go_wp2_with fail
  refine (isNet_any N a _ _ (HA.out.ext HB.out)).mono ?_
  rintro e w1 ⟨rfl, hx⟩
  replace m0 := keepAt hx zz m0
  replace m1 := keepAt hx zz m1
  have HX : Hid (Ext W1 w1) := Lib.hid hx
  clear hx
  cases hv : vNet N a
  · have HV := Lib.hid hv; clear hv
    go_wp2
    refine bodyPost_ret (v := .tuple #[.slice none 0 0, .int .i64 2]) (by simp [results, Try.results28, go_sem]) rfl ⟨_, 2, rfl, HB.out.trans HX.out, .inl ⟨HV.out, rfl, rfl⟩⟩
  · obtain ⟨m, rfl, hm2, hm40, hn, hok⟩ := vNet_ok hv
    have HOK := Lib.hid hok; have HV := Lib.hid hv
    clear hv hok
    by_cases h12 : m ≤ 12
    · have h12' : ¬ (12 : Int) < m := by omega
      go_wp2_with fail
      refine (filled_any m a _ _ (HA.out.ext (HB.out.trans HX.out)) HOK.out (by omega) hm2 (by omega)).mono ?_
      rintro e w2 ⟨x, gl, SV, rfl, -, hbi, hfull, -, hx⟩
      have HX2 : Hid (Ext W1 w2) := Lib.hid (HX.out.trans hx)
      have HFULL := Lib.hid hfull; have HBI := Lib.hid hbi
      clear hx m0 m1 hbi hfull
      go_wp2_with fail
      refine (value_any a m 0 ((m - 1 : Nat) : Int) (2 * a.n) 1000000 _ SV gl x _ (HA.out.ext (HB.out.trans HX2.out)) HOK.out (by omega) (by omega) rfl HBI.out HFULL.out.fp.rs).mono ?_
      rintro e w3 ⟨rfl, hx⟩
      have HX3 : Hid (Ext W1 w3) := Lib.hid (HX2.out.trans hx)
      have hmc := HFULL.out.mc HOK.out.in_ (by omega) (by omega)
      obtain ⟨v, hvv⟩ : ∃ v, v = a.nw.sp (Nw.fw x) 0 := ⟨_, rfl⟩
      rw [← hvv] at hmc ⊢
      have HMC := Lib.hid hmc
      have m0 := keepAt HX3.out zz HM.out.1
      clear hx hvv hmc
      obtain ⟨r, hr⟩ : ∃ r : Nat, r = m - 2 := ⟨_, rfl⟩
      have hr2 : (m : Int) - 2 = r := by omega
      have hr10 : r ≤ 10 := by omega
      have HRR := Lib.hid hr
      clear hr
      obtain ⟨P, hP⟩ : ∃ P, P = 2 ^ r := ⟨_, rfl⟩
      have hsh : wrap64 ((2 : Int) ^ r) = (P : Int) := by rw [shl_small r hr10, hP]
      have hP2 : P ≤ 1024 := by rw [hP]; exact Nat.le_trans (Nat.pow_le_pow_right (by omega) hr10) (by decide)
      have HPP := Lib.hid hP
      clear hP
      have zw3 := Nat.lt_of_lt_of_le zz HX3.out.size
      have hle3 := HX3.out.size
      obtain ⟨i0, hi, hz0, hz1, hz2⟩ := info_parts info40
      go_wp2_with fail
      rw [hsh]
      clear m0 hsh
      go_loopw [4, 21] (fun q i wr => ∃ k : Nat, i = .int .i64 k ∧ k ≤ P ∧ Hid (Sdl wr w3.heap.size q m (mins a.nw m v k) ∧ Ext W1 wr ∧ w3.heap.size ≤ wr.heap.size)) (fun _ i _ => P - (intOf i).toNat)
      case atStart => exact ⟨0, rfl, Nat.zero_le _, Lib.hid ⟨⟨[], rfl, World.ownsRow_nil _ _ _ _, fun i hi => by simp [mins] at hi⟩, HX3.out, Nat.le_refl _⟩⟩
      case round =>
        obtain ⟨k, rfl, hk, hin⟩ := hrel
        have m0 := keepAt hin.out.2.1 zz HM.out.1
        have m1 := keepAt hin.out.2.1 zz HM.out.2
        have zwr := Nat.lt_of_lt_of_le zz hin.out.2.1.size
        by_cases hlt : k < P
        · have hk2 : k < 2 ^ (m - 2) := by rw [← HRR.out, ← HPP.out]; exact hlt
          go_wp2_with fail
          refine (numbered_any m k _ hm2 h12 hk2).mono ?_
          rintro e w4 ⟨g, rfl, hg, hbb, hx⟩
          replace m0 := keepAt hx zwr m0
          replace m1 := keepAt hx zwr m1
          have HBB := Lib.hid hbb
          have HX4 : Hid (Ext W1 w4) := Lib.hid (hin.out.2.1.trans hx)
          have HS4 : Hid (Sdl w4 w3.heap.size u4 m (mins a.nw m v k) ∧ w3.heap.size ≤ w4.heap.size) := Lib.hid ⟨hin.out.1.ext hx, Nat.le_trans hin.out.2.2 hx.size⟩
          clear hx hbb
          go_wp2_with fail
          refine (cost_any a m (numb m k) _ _ _ (HA.out.ext (HB.out.trans HX4.out)) (BB.bl HBB.out (by omega)) HOK.out (by omega)).mono ?_
          rintro e w5 ⟨rfl, hx⟩
          have HX5 : Hid (Ext W1 w5) := Lib.hid (HX4.out.trans hx)
          have HB5 := Lib.hid (HBB.out.ext hx)
          have HS5 : Hid (Sdl w5 w3.heap.size u4 m (mins a.nw m v k) ∧ w3.heap.size ≤ w5.heap.size) := Lib.hid ⟨HS4.out.1.ext hx, Nat.le_trans HS4.out.2 hx.size⟩
          obtain ⟨y, hy⟩ : ∃ y, y = a.nw.ct (numb m k) := ⟨_, rfl⟩
          rw [← hy]
          have HY := Lib.hid hy
          clear hx m0 m1 hy HBB HS4
          by_cases hyv : y = v
          · subst hyv
            obtain ⟨gs, hgl, how, hbs⟩ := HS5.out.1
            have hown := World.ownsRow.ext how (Ext.alc (Ext.refl w5) (.cells #[.slice (some ⟨g, 0, none⟩) m m] 40))
            have HBS := Lib.hid (And.intro hgl (And.intro how hbs))
            have hvs : ∃ A n c, u4 = .slice A n c := by
              obtain ⟨-, ⟨rfl, -⟩ | ⟨g, cap, cur, rfl, -⟩⟩ := how
              · exact ⟨_, _, _, rfl⟩
              · exact ⟨_, _, _, rfl⟩
            have hml := mins_len a.nw m y k
            have hsz5 := HS5.out.2
            obtain ⟨L, hL⟩ : ∃ L, L = (mins a.nw m y k).length := ⟨_, rfl⟩
            rw [← hL] at hown hml
            have HLL := Lib.hid hL
            clear hgl how hbs hL
            obtain ⟨Av, nv, cv, rfl⟩ := hvs
            go_wp2_with (at_builtin; refine wpList_append_own _ rfl _ _ 49 rfl w3.heap.size 40 i0 (.slice none 0 0) 1 24 Try.underlying49 hi hz0 hz1 hz2 rfl (by decide) _ L _ rfl hown ⟨w5.heap.size, 0, none⟩ 1 1 [.slice (some ⟨g, 0, none⟩) m m] rfl rfl ?c1 ?c2 ?c3 ?c4 ?c5 ?_)
            case c1 =>
              intro j u hj
              match j, hj with
              | 0, hj => simp at hj; subst hj; simp [Addr.add]
              | j + 1, hj => simp at hj
            case c2 => intro u hu; simp at hu; subst hu; rfl
            case c3 => unfold maxLen; omega
            case c4 => omega
            case c5 => simp; omega
            intro v' w6 hown' hgrow hnil
            clear hnil
            have HN : Hid (Sdl w6 w3.heap.size v' m (mins a.nw m y (k + 1)) ∧ Ext W1 w6 ∧ w3.heap.size ≤ w6.heap.size) := by
              obtain ⟨hgl, how, hbs⟩ := HBS.out
              rw [HLL.out] at hown'
              have hxa : Ext w5 (w5.alloc (.cells #[.slice (some ⟨g, 0, none⟩) m m] 40)) := Ext.alc (Ext.refl w5) _
              have hsd := Sdl.more hgl (World.ownsRow.ext how hxa) (fun i hi => (hbs i hi).ext hxa) (HB5.out.ext hxa) hown' hgrow
              refine Lib.hid ⟨?_, ?_, ?_⟩
              · rw [mins_succ, ← HY.out, if_pos rfl]; exact hsd
              · have hb0 := World.ownsRow.lt how
                have e := HX5.out
                exact ⟨hgrow.os.trans e.os, hgrow.tape.trans e.tape, hgrow.output.trans e.output, by have h1 := hgrow.size; have h2 := e.size; simp at h1; omega, fun b hb => (hgrow.block b (by have h2 := e.size; simp; omega) (fun e2 => by have := (hb0 b e2.symm).1; omega)).trans ((Below.heap_alloc _ _ b (by have h2 := e.size; omega)).trans (e.block b hb))⟩
              · have h1 := hgrow.size; simp at h1; omega
            clear hown' hgrow hown
            go_wp2
            go_roundw
            case rel => exact ⟨k + 1, by go_num, by omega, HN⟩
            case measure => simp [intOf]; omega
          · have hyv' : (y == v) = false := by simp; exact hyv
            go_wp2
            go_roundw
            case rel =>
              refine ⟨k + 1, by go_num, by omega, Lib.hid ⟨?_, HX5.out, HS5.out.2⟩⟩
              rw [mins_succ, ← HY.out, if_neg hyv, List.append_nil]
              exact HS5.out.1
            case measure => simp [intOf]; omega
        · obtain rfl : k = P := by omega
          clear m0 m1
          go_wp2
          refine bodyPost_ret (v := .tuple #[u4, .int .i64 0]) (by simp [results, Try.results28, go_sem]) rfl ⟨_, 0, rfl, HB.out.trans hin.out.2.1, .inr (.inr ⟨HV.out, by omega, rfl, v, ?_, ?_⟩)⟩
          · rw [Int.toNat_natCast]; exact HMC.out
          · rw [Int.toNat_natCast, ← HRR.out, ← HPP.out]
            obtain ⟨gs, h1, h2, h3⟩ := hin.out.1
            exact ⟨gs, h1, ⟨h2.1, h2.2.imp id fun ⟨g, cap, cur, e, hg, rest⟩ => ⟨g, cap, cur, e, by omega, rest⟩⟩, h3⟩
    · have h12' : (12 : Int) < m := by omega
      clear h12
      go_wp2
      refine bodyPost_ret (v := .tuple #[.slice none 0 0, .int .i64 3]) (by simp [results, Try.results28, go_sem]) rfl ⟨_, 3, rfl, HB.out.trans HX.out, .inr (.inl ⟨HV.out, h12', rfl, rfl⟩)⟩
end Go.Proofs.Ytilcbbdmenknfaa
namespace Go.Proofs.Ytilcbbdmenknfaa
open Go.RowKit

theorem mins_mem {G : Nw} {N k n : Nat} {v : Int} : k ∈ mins G N v n ↔ k < n ∧ G.ct (numb N k) = v := by unfold mins; simp
theorem ct_modular (G : Nw) (hc : ∀ k, k < G.m → 0 ≤ G.cp k) (S T : Nat → Bool) : G.ct (fun v => S v && T v) + G.ct (fun v => S v || T v) ≤ G.ct S + G.ct T := by
  unfold Nw.ct
  rw [← sm_add, ← sm_add]
  refine sm_le fun k hk => ?_
  have := hc k hk
  dsimp only
  have tt : ∀ a b c d : Bool, (if (a && c) = true ∧ (b && d) = false then G.cp k else 0) + (if (a || c) = true ∧ (b || d) = false then G.cp k else 0) ≤ (if a = true ∧ b = false then G.cp k else 0) + (if c = true ∧ d = false then G.cp k else 0) := by
    intro a b c d
    cases a <;> cases b <;> cases c <;> cases d <;> simp <;> omega
  exact tt _ _ _ _
theorem Mc.both {G : Nw} {s t : Nat} {v : Int} (hc : ∀ k, k < G.m → 0 ≤ G.cp k) (h : Mc G s t v) {S T : Nat → Bool} (hS : Nw.Sd s t S) (hT : Nw.Sd s t T) (h1 : G.ct S = v) (h2 : G.ct T = v) :
    G.ct (fun v => S v && T v) = v ∧ G.ct (fun v => S v || T v) = v := by
  have h3 := ct_modular G hc S T
  have h4 := h.le (fun v => S v && T v) ⟨by simp [hS.1, hT.1], by simp [hS.2]⟩
  have h5 := h.le (fun v => S v || T v) ⟨by simp [hS.1], by simp [hS.2, hT.2]⟩
  omega
/-- among the listed sides is each minimum side -/
theorem mins_has {G : Nw} {N : Nat} {v : Int} (hN : 2 ≤ N) (hin : G.In N) {S : Nat → Bool} (hS : Nw.Sd 0 (N - 1) S) (hv : G.ct S = v) : ∃ i, i < (mins G N v (2 ^ (N - 2))).length ∧ ∀ u, u < N → numb N ((mins G N v (2 ^ (N - 2))).getD i 0) u = S u := by
  obtain ⟨k, hk, hkS⟩ := numb_ex hN hS
  have : k ∈ mins G N v (2 ^ (N - 2)) := mins_mem.2 ⟨hk, by rw [← hv]; exact G.ct_congr hin hkS⟩
  obtain ⟨i, hi, he⟩ := List.mem_iff_getElem.1 this
  refine ⟨i, hi, fun u hu => ?_⟩
  rw [List.getD_eq_getElem?_getD, List.getElem?_eq_getElem hi, he]
  exact hkS u hu
theorem mins_lattice {G : Nw} {N : Nat} {v : Int} (hN : 2 ≤ N) (hin : G.In N) (hc : ∀ k, k < G.m → 0 ≤ G.cp k) (h : Mc G 0 (N - 1) v) {ks : List Nat} (hks : ks = mins G N v (2 ^ (N - 2))) {p q : Nat} (hp : p < ks.length) (hq : q < ks.length) :
    (∃ i, i < ks.length ∧ ∀ u, u < N → numb N (ks.getD i 0) u = (numb N (ks.getD p 0) u && numb N (ks.getD q 0) u)) ∧ ∃ i, i < ks.length ∧ ∀ u, u < N → numb N (ks.getD i 0) u = (numb N (ks.getD p 0) u || numb N (ks.getD q 0) u) := by
  have key : ∀ r, r < ks.length → G.ct (numb N (ks.getD r 0)) = v := by
    intro r hr
    have : ks.getD r 0 ∈ ks := by rw [List.getD_eq_getElem?_getD, List.getElem?_eq_getElem hr]; exact List.getElem_mem hr
    generalize ks.getD r 0 = y at this ⊢
    rw [hks] at this
    exact (mins_mem.1 this).2
  obtain ⟨e1, e2⟩ := h.both hc (numb_sd (ks.getD p 0) hN) (numb_sd (ks.getD q 0) hN) (key p hp) (key q hq)
  have s1 := numb_sd (ks.getD p 0) hN
  have s2 := numb_sd (ks.getD q 0) hN
  have h1 := mins_has hN hin (S := fun u => numb N (ks.getD p 0) u && numb N (ks.getD q 0) u) ⟨by dsimp only; rw [s1.1, s2.1]; rfl, by dsimp only; rw [s1.2]; rfl⟩ e1
  have h2 := mins_has hN hin (S := fun u => numb N (ks.getD p 0) u || numb N (ks.getD q 0) u) ⟨by dsimp only; rw [s1.1]; rfl, by dsimp only; rw [s1.2, s2.2]; rfl⟩ e2
  rw [← hks] at h1 h2
  exact ⟨h1, h2⟩

/-- some of the first k -/
def anyTo (f : Nat → Bool) (k : Nat) : Bool := (List.range k).any f
theorem anyTo_succ (f : Nat → Bool) (k : Nat) : anyTo f (k + 1) = (anyTo f k || f k) := by simp [anyTo, List.range_succ]
theorem anyTo_true {f : Nat → Bool} {n i : Nat} (hi : i < n) (h : f i = true) : anyTo f n = true := List.any_eq_true.2 ⟨i, List.mem_range.2 hi, h⟩

def bl (k : Nat) (s : Nat → Bool) : List Value := (List.range k).map fun j => Value.bool (s j)
theorem bl_succ (k : Nat) (s : Nat → Bool) : bl (k + 1) s = bl k s ++ [Value.bool (s k)] := by simp [bl, List.range_succ]
theorem ownsRow_bl {w : World} {base n : Nat} {v : Value} {s : Nat → Bool} (h : w.ownsRow base 4 1 v n (bl n s)) : Bl w v n s := by
  obtain ⟨h1, ⟨rfl, h2⟩ | ⟨g, cap, cur, rfl, hb, hh, h5, h6, h7, h8⟩⟩ := h
  · have : n = 0 := by omega
    subst this
    exact ⟨none, 0, rfl, Nat.le_refl _, by omega, fun h => by omega⟩
  · refine ⟨_, cap, rfl, by omega, by simp only [maxLen] at *; omega, fun hp => ⟨g, 0, rfl, (Array.getElem?_eq_some_iff.1 hh).1, fun j hj => ?_⟩⟩
    rw [Nat.zero_add, cell_of_row w g j cur 4 (0, 0) hh]
    have h11 : (bl n s)[j]? = some (.bool (s j)) := by unfold bl; rw [List.getElem?_map, List.getElem?_range hj]; rfl
    rw [← h8, List.getElem?_take, if_pos (by omega)] at h11
    simpa using h11
theorem ownsRow_far {w w' : World} {base n size : Nat} {e : TypeId} {v : Value} {xs : List Value} {r : Option Nat} (h : w.ownsRow base e size v n xs) (hg : w.grownBy w' r) (hne : ∀ b, v.ownBlock = some b → r ≠ some b) : w'.ownsRow base e size v n xs := by
  obtain ⟨h1, h2 | ⟨g, cap, cur, rfl, hb, hh, rest⟩⟩ := h
  · exact ⟨h1, .inl h2⟩
  · exact ⟨h1, .inr ⟨g, cap, cur, rfl, hb, (hg.block g (Array.getElem?_eq_some_iff.1 hh).1 (fun e => hne g rfl e.symm)).trans hh, rest⟩⟩
theorem ext_of_grow {X w w' : World} {base : Nat} {r : Option Nat} (e : Ext X w) (hg : w.grownBy w' r) (hr : ∀ b, r = some b → base ≤ b) (hb : X.heap.size ≤ base) : Ext X w' :=
  ⟨hg.os.trans e.os, hg.tape.trans e.tape, hg.output.trans e.output, Nat.le_trans e.size hg.size, fun b hb' => (hg.block b (Nat.lt_of_lt_of_le hb' e.size) (fun e2 => by have := hr b e2.symm; omega)).trans (e.block b hb')⟩
/-- two rows of flags of the call's own, in blocks of their own -/
structure Tw (w : World) (base : Nat) (u v : Value) (k l : Nat) (s t : Nat → Bool) : Prop where
  fst : w.ownsRow base 4 1 u k (bl k s)
  snd : w.ownsRow base 4 1 v l (bl l t)
  ne : ∀ b, u.ownBlock = some b → v.ownBlock ≠ some b
  le : base ≤ w.heap.size
theorem Tw.symm {w : World} {base : Nat} {u v : Value} {k l : Nat} {s t : Nat → Bool} (h : Tw w base u v k l s t) : Tw w base v u l k t s := ⟨h.snd, h.fst, fun b hb hu => h.ne b hu hb, h.le⟩
theorem Tw.ext {w x : World} {base : Nat} {u v : Value} {k l : Nat} {s t : Nat → Bool} (h : Tw w base u v k l s t) (e : Ext w x) : Tw x base u v k l s t := ⟨World.ownsRow.ext h.fst e, World.ownsRow.ext h.snd e, h.ne, Nat.le_trans h.le e.size⟩
theorem Tw.nil (w : World) (s t : Nat → Bool) : Tw w w.heap.size (.slice none 0 0) (.slice none 0 0) 0 0 s t := ⟨World.ownsRow_nil _ _ _ _, World.ownsRow_nil _ _ _ _, fun b h => by simp [Value.ownBlock] at h, Nat.le_refl _⟩
/-- one flag more onto the first -/
theorem Tw.one {w x : World} {base : Nat} {u v u' : Value} {k l : Nat} {s t : Nat → Bool} (h : Tw w base u v k l s t) {z : Bool} (hz : s k = z) (o : x.ownsRow base 4 1 u' (k + 1) (bl k s ++ [Value.bool z])) (g : w.grownBy x u.ownBlock)
    (a : u'.ownBlock = u.ownBlock ∨ u'.ownBlock = some w.heap.size) : Tw x base u' v (k + 1) l s t ∧ ∀ X : World, Ext X w → X.heap.size ≤ base → Ext X x := by
  refine ⟨⟨by rw [bl_succ, hz]; exact o, ownsRow_far h.snd g (fun b hb e => h.ne b e hb), fun b hb => ?_, Nat.le_trans h.le g.size⟩, fun X e hX => ext_of_grow e g (fun b hb => (World.ownsRow.lt h.fst b hb).1) hX⟩
  rcases a with e | e
  · exact h.ne b (by rw [← e]; exact hb)
  · intro hv
    rw [e] at hb
    injection hb with hb
    have := (World.ownsRow.lt h.snd b hv).2
    omega
end Go.Proofs.Ytilcbbdmenknfaa
