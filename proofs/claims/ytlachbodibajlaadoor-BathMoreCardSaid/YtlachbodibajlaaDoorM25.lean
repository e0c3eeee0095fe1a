/- Walks: the law BathMore. -/
import Derived.Test.YtlachbodibajlaaDoorM24
namespace Go.Proofs.YtlachbodibajlaaDoor
open Go.RowKit Go.Shelf

/-- one pair more: what can follow then could follow before -/
theorem more_can {n m : Nat} {st : Nat → Int} {y : Nat → Nat → Int} {a b : Nat → Int} {p q : Int} {s x : Nat} (h : (crs n (m + 1) st y (up a m p) (up b m q)).can s x = true) : (crs n m st y a b).can s x = true := by
  unfold Crs.can at h ⊢
  rw [Bool.and_eq_true] at h ⊢
  refine ⟨h.1, sub_iff.2 fun j hj hb => sub_iff.1 h.2 j hj ?_⟩
  obtain ⟨i, h1, h2, h3⟩ := (ndk_bit a b x j m).1 hb
  exact (ndk_bit (up a m p) (up b m q) x j (m + 1)).2 ⟨i, by omega, by rw [up_ne _ _ (by omega)]; exact h2, by rw [up_ne _ _ (by omega)]; exact h3⟩
/-- its best order is an order of the plan, and costs no less -/
theorem more_best {c d : Crs} (hn : 1 ≤ c.n) (hd : d.n = c.n) (he : ∀ i, i < c.n → c.en i = 0) (hde : ∀ i, i < d.n → d.en i = 0) (hcan : ∀ s x, x < c.n → d.can s x = true → c.can s x = true) (hr : c.rnds c.n < 2 ^ c.n) (hh : d.has = true) :
    ∃ v, costV true c d.n (fun i => ((d.best.getD i 0 : Nat) : Int)) = v ∧ costE true c d.n (fun i => ((d.best.getD i 0 : Nat) : Int)) = 0 ∧ c.cst 0 0 c.best ≤ v := by
  obtain ⟨b1, b2, -⟩ := best_ok hh (by omega) hde
  have h1 : c.fol 0 d.best = true := fol_mono hd hcan _ 0 b2
  have h2 := okO_of (by omega) h1
  have h3 := (okO_best hn he hr h2).2.2.1
  rw [hd]
  refine ⟨_, rfl, ?_, ?_⟩
  · unfold costE; rw [h2]; rfl
  · unfold costV
    rw [h2]
    exact h3

set_option maxHeartbeats 16000000 in
set_option maxRecDepth 100000 in
theorem bathMore_walk (S C B : Value) (n mc m : Nat) (st : Nat → Int) (ln : Nat → Nat) (y : Nat → Nat → Int) (a b : Nat → Int) (p q : Int) (W : World) (h : Pv W S C B n mc m st ln y a b) :
    Calls Tryd.prog 13 #[.agg #[S, C, B], .agg #[.int .i64 p, .int .i64 q]] W fun e W' => e = .returned (.bool true) ∧ Ext W W' := by
  have HV := Lib.hid h
  have HOF := Lib.hid fun X hX => of_any S C B n mc m st ln y a b X hX
  have HBS := Lib.hid fun (X : World) (S C B : Value) (hX : Pv X S C B (min n 12) (min mc 12) (min m 42) st (fun i => min (ln i) 12) y a b) => Best_any S C B _ _ _ st _ y a b X hX
  have HCS := Lib.hid fun (X : World) (S C B : Value) (hX : Pv X S C B (min n 12) (min mc 12) (min m 42) st (fun i => min (ln i) 12) y a b) O q x (hO : Il X O q x) => Cost_any S C B O _ _ _ st _ y a b q x X hX hO
  obtain ⟨A, k, rfl, -⟩ := id h.vs
  obtain ⟨A2, k2, rfl, -⟩ := id h.vc
  obtain ⟨A3, k3, rfl, hk5, -⟩ := id h.vb
  have hck := @cutC_ok n mc m st ln y a b
  unfold cutOk cutC at hck
  obtain ⟨okb, hokb⟩ : ∃ t, t = okPlan (min n 12) (min mc 12) (min m 42) st (fun i => min (ln i) 12) y a b := ⟨_, rfl⟩
  obtain ⟨c, hc⟩ : ∃ t, t = crs (min n 12) (min m 42) st y a b := ⟨_, rfl⟩
  simp only [← hokb, ← hc] at HBS HCS hck
  have HCD := Lib.hid hc
  have HOD := Lib.hid hokb
  obtain ⟨j0, hj0, hy0, hy1, hy2⟩ := info_parts info60
  have HJ := Lib.hid (And.intro hj0 (And.intro hy0 (And.intro hy1 hy2)))
  have e1 : Ext W ((W.alloc (.cells #[.slice A n k, .slice A2 mc k2, .slice A3 m k3] 48)).alloc (.cells #[.int .i64 p, .int .i64 q] 60)) := al2 W _ _
  have hbk : ((W.alloc (.cells #[.slice A n k, .slice A2 mc k2, .slice A3 m k3] 48)).alloc (.cells #[.int .i64 p, .int .i64 q] 60)).heap[W.heap.size]? = some (.cells #[.slice A n k, .slice A2 mc k2, .slice A3 m k3] 48 (0, 0)) := (Below.heap_alloc _ _ _ (by simp)).trans (heap_alloc_new W _)
  have hb6 := heap_alloc_new (W.alloc (.cells #[.slice A n k, .slice A2 mc k2, .slice A3 m k3] 48)) (.cells #[.int .i64 p, .int .i64 q] 60)
  simp only [World.size_alloc] at hb6
  have HCK := Lib.hid hck
  have hbb := h.bb
  clear h hokb hc hck hj0 hy0 hy1 hy2
  go_enter Tryd.func13, Tryd.ntmps13
  go_upto_region 1 with fail
  obtain ⟨s1, hs1⟩ : ∃ s, s = W.heap.size := ⟨_, rfl⟩
  rw [← hs1] at hbk hb6 ⊢
  obtain ⟨s6, hs6⟩ : ∃ s, s = s1 + 1 := ⟨_, rfl⟩
  rw [← hs6] at hb6 ⊢
  generalize (W.alloc (.cells #[.slice A n k, .slice A2 mc k2, .slice A3 m k3] 48)).alloc (.cells #[.int .i64 p, .int .i64 q] 60) = W1 at *
  have HB := Lib.hid hbk
  have HB6 := Lib.hid hb6
  have HX := Lib.hid (Ext.refl W1)
  have E1 := Lib.hid e1
  clear hbk hb6 hs1 hs6 e1
  cases hk : okb
  · subst hk
    have hbE : bestE false c = 2 := rfl
    simp only [hbE] at HBS
    have h20 : ((2 : Int) != 0) = true := rfl
    clear hbE
    obtain ⟨c0, c1, c2, z0⟩ := three_c (ext_ty HX.out HB.out)
    go_wp2_with fail
    refine (HOF.out _ (HV.out.ext (E1.out.trans HX.out))).mono ?_
    rintro e w1 ⟨S1, C1, B1, rfl, hp, hx⟩
    replace HX := Lib.hid (HX.out.trans hx)
    have HP1 := Lib.hid hp
    clear hp hx c0 c1 c2 z0
    go_wp2_with fail
    refine (HBS.out _ _ _ _ HP1.out).mono ?_
    rintro e w1x ⟨U1, rfl, hil, hx⟩
    replace HX := Lib.hid (HX.out.trans hx)
    have HIL := Lib.hid hil
    obtain ⟨UA1, uc1, rfl, -⟩ := id hil
    clear hil hx
    obtain ⟨c0, c1, c2, z0⟩ := three_c (ext_ty HX.out HB.out)
    go_wp2_with fail
    refine (awake_any _).mono ?_
    rintro e w9 ⟨rfl, hx⟩
    replace HX := Lib.hid (HX.out.trans hx); clear hx
    go_wp2
    go_ret
    exact ⟨rfl, E1.out.trans HX.out⟩
  subst hk
  obtain ⟨hcok, hen⟩ := HCK.out rfl
  have hn1 := hcok.n1
  cases hh : c.has
  · have hbE : bestE true c = 7 := by unfold bestE; rw [hh]; rfl
    simp only [hbE] at HBS
    have h20 : ((7 : Int) != 0) = true := rfl
    have h27 : ((7 : Int) == 2) = false := rfl
    clear hbE hcok hen hn1 hh
    obtain ⟨c0, c1, c2, z0⟩ := three_c (ext_ty HX.out HB.out)
    go_wp2_with fail
    refine (HOF.out _ (HV.out.ext (E1.out.trans HX.out))).mono ?_
    rintro e w1 ⟨S1, C1, B1, rfl, hp, hx⟩
    replace HX := Lib.hid (HX.out.trans hx)
    have HP1 := Lib.hid hp
    clear hp hx c0 c1 c2 z0
    go_wp2_with fail
    refine (HBS.out _ _ _ _ HP1.out).mono ?_
    rintro e w1x ⟨U1, rfl, hil, hx⟩
    replace HX := Lib.hid (HX.out.trans hx)
    have HIL := Lib.hid hil
    obtain ⟨UA1, uc1, rfl, -⟩ := id hil
    clear hil hx
    obtain ⟨c0, c1, c2, z0⟩ := three_c (ext_ty HX.out HB.out)
    go_wp2_with fail
    refine (awake_any _).mono ?_
    rintro e w9 ⟨rfl, hx⟩
    replace HX := Lib.hid (HX.out.trans hx); clear hx
    go_wp2
    go_ret
    exact ⟨rfl, E1.out.trans HX.out⟩
  have hbE : bestE true c = 0 := by unfold bestE; rw [hh]; rfl
  have hbN : bestN true c = c.n := by unfold bestN; rw [hh]; rfl
  simp only [hbE, hbN] at HBS
  have h00 : ((0 : Int) != 0) = false := rfl
  have HCB := Lib.hid (cost_best hh hn1 (fun i _ => hen i))
  obtain ⟨nb, hnb⟩ : ∃ v, v = c.cst 0 0 c.best := ⟨_, rfl⟩
  rw [← hnb] at HCB
  have HNB := Lib.hid (And.intro hnb (And.intro hcok hn1))
  clear hbE hbN hcok hen hn1 hh hnb
  by_cases h39 : (39 : Int) < (m : Int)
  · skip
    obtain ⟨c0, c1, c2, z0⟩ := three_c (ext_ty HX.out HB.out)
    go_wp2_with fail
    refine (HOF.out _ (HV.out.ext (E1.out.trans HX.out))).mono ?_
    rintro e w1 ⟨S1, C1, B1, rfl, hp, hx⟩
    replace HX := Lib.hid (HX.out.trans hx)
    have HP1 := Lib.hid hp
    clear hp hx c0 c1 c2 z0
    go_wp2_with fail
    refine (HBS.out _ _ _ _ HP1.out).mono ?_
    rintro e w1x ⟨U1, rfl, hil, hx⟩
    replace HX := Lib.hid (HX.out.trans hx)
    have HIL := Lib.hid hil
    obtain ⟨UA1, uc1, rfl, -⟩ := id hil
    clear hil hx
    obtain ⟨c0, c1, c2, z0⟩ := three_c (ext_ty HX.out HB.out)
    go_wp2_with fail
    refine (awake_any _).mono ?_
    rintro e w9 ⟨rfl, hx⟩
    replace HX := Lib.hid (HX.out.trans hx); clear hx
    go_wp2
    go_ret
    exact ⟨rfl, E1.out.trans HX.out⟩
  have hm42 : min m 42 = m := by omega
  have hm43 : min (m + 1) 42 = m + 1 := by omega
  have HMM := Lib.hid (And.intro hm42 hm43)
  have hm39 : m ≤ 39 := by omega
  clear hm42 hm43
  obtain ⟨c0, c1, c2, z0⟩ := three_c (ext_ty HX.out HB.out)
  go_wp2_with fail
  refine (HOF.out _ (HV.out.ext (E1.out.trans HX.out))).mono ?_
  rintro e w1 ⟨S1, C1, B1, rfl, hp, hx⟩
  replace HX := Lib.hid (HX.out.trans hx)
  have HP1 := Lib.hid hp
  clear hp hx c0 c1 c2 z0
  go_wp2_with fail
  refine (HBS.out _ _ _ _ HP1.out).mono ?_
  rintro e w1x ⟨U1, rfl, hil, hx⟩
  replace HX := Lib.hid (HX.out.trans hx)
  have HIL := Lib.hid hil
  obtain ⟨UA1, uc1, rfl, -⟩ := id hil
  clear hil hx
  obtain ⟨c0, c1, c2, z0⟩ := three_c (ext_ty HX.out HB.out)
  obtain ⟨d0, d1, dz, -⟩ := two_c (ext_ty HX.out HB6.out)
  go_upto_region 5 with fail
  have e7 : Ext w1x (w1x.alloc (.cells #[.slice A n k, .slice A2 mc k2, .slice A3 m k3] 48)) := al1 w1x _
  have hb7 := heap_alloc_new w1x (.cells #[.slice A n k, .slice A2 mc k2, .slice A3 m k3] 48)
  obtain ⟨s7, hs7⟩ : ∃ s, s = w1x.heap.size := ⟨_, rfl⟩
  rw [← hs7] at hb7 ⊢
  have HS7 : Hid (w1x.heap.size ≤ s7) := Lib.hid (Nat.le_of_eq hs7.symm)
  generalize w1x.alloc (.cells #[.slice A n k, .slice A2 mc k2, .slice A3 m k3] 48) = wq at *
  replace c0 := Ext.at e7 z0 c0
  replace c1 := Ext.at e7 z0 c1
  replace c2 := Ext.at e7 z0 c2
  replace z0 := Nat.lt_of_lt_of_le z0 (Ext.size e7)
  replace d0 := Ext.at e7 dz d0
  replace d1 := Ext.at e7 dz d1
  replace dz := Nat.lt_of_lt_of_le dz (Ext.size e7)
  have HE7 := Lib.hid e7
  have HB7q := Lib.hid hb7
  have HPX := Lib.hid (HV.out.vb.ext (E1.out.trans (HX.out.trans e7)))
  clear e7 hb7 hs7
  refine wp_region_noPanic ?_
  refine wp_split (S := fun X => Ext wq X) 5 (by kernel_rfl) (by kernel_rfl) (Ext.drw (Ext.refl _)) ?_
  simp only [List.take_succ_cons, List.take_zero, List.drop_succ_cons, List.drop_zero]
  refine take_at 0 (some 40) (.pointer (some ⟨s1, 2, none⟩)) rfl rfl (by kernel_rfl) (by kernel_rfl) (by kernel_rfl) (fun _ _ _ h => h) (Or.inl ⟨by rfl, fun w' hSw => ?_⟩) (Ext.drw (Ext.refl _)) ?_
  · skip
    try clear hSw
    go_simp
    all_goals (with_reducible rfl)
  try simp only [Act.put, List.setIfInBounds_toArray, List.set_cons_zero, List.set_cons_succ]
  refine take_at 1 (some 41) (.slice A3 m k3) rfl rfl (by kernel_rfl) (by kernel_rfl) (by kernel_rfl) (fun _ _ _ h => h) (Or.inl ⟨by rfl, fun w' hSw => ?_⟩) (Ext.drw (Ext.refl _)) ?_
  · have m0 := keepAt hSw z0 c0
    have m1 := keepAt hSw z0 c1
    have m2 := keepAt hSw z0 c2
    try clear hSw
    go_simp
    all_goals (with_reducible rfl)
  try simp only [Act.put, List.setIfInBounds_toArray, List.set_cons_zero, List.set_cons_succ]
  refine take_at 3 (some 43) (.agg #[.int .i64 p, .int .i64 q]) rfl rfl (by kernel_rfl) (by kernel_rfl) (by kernel_rfl) (fun _ _ _ h => h) (Or.inl ⟨by rfl, fun w' hSw => ?_⟩) (Ext.drw (Ext.refl _)) ?_
  · have m0 := keepAt hSw dz d0
    have m1 := keepAt hSw dz d1
    try clear hSw
    go_simp
    all_goals (with_reducible rfl)
  try simp only [Act.put, List.setIfInBounds_toArray, List.set_cons_zero, List.set_cons_succ]
  refine wpAnyH_ready (rs := [2, 4]) (by kernel_rfl) (by simp) ?_
  refine AllReadyH.cons rfl (fun K hK => ?_) (AllReadyH.cons rfl (fun K hK => ?_) AllReadyH.nil)
  · go_simp
    refine (cloneP_any m a b _ _ (HPX.out.ext (Ext.drw (Ext.refl _))) (by omega)).mono ?_
    rintro e v2 ⟨U2, rfl, hown, hb2⟩
    have e2 : Ext wq v2 := (Ext.drw (Ext.refl _)).trans hb2
    try go_wp2_with fail
    refine hK.out _ _ e2 (fun _ => ?_)
    clear hK K
    try simp only [Act.put, List.setIfInBounds_toArray, List.set_cons_zero, List.set_cons_succ]
    have HOW := Lib.hid hown
    obtain ⟨UA2, uc2, rfl⟩ := shape_own hown
    clear hown hb2
    refine wpAnyH_ready (rs := [4]) (by kernel_rfl) (by simp) ?_
    refine AllReadyH.cons rfl (fun K hK => ?_) AllReadyH.nil
    go_simp
    refine hK.out _ _ (e2.alc _) (fun _ => ?_)
    clear hK K
    try simp only [Act.put, List.setIfInBounds_toArray, List.set_cons_zero, List.set_cons_succ]
    have hx4 := Ext.alc e2 (.cells #[.int .i64 p, .int .i64 q] 60)
    have ho4 := World.ownsRow.ext HOW.out (Ext.alc (Ext.refl v2) (.cells #[.int .i64 p, .int .i64 q] 60))
    have hg4 := heap_alloc_new v2 (.cells #[.int .i64 p, .int .i64 q] 60)
    obtain ⟨gp, hgp⟩ : ∃ t, t = v2.heap.size := ⟨_, rfl⟩
    rw [← hgp] at hg4 ⊢
    generalize v2.alloc (.cells #[.int .i64 p, .int .i64 q] 60) = X at *
    have HO4 : Hid (X.ownsRow wq.heap.size 60 2 (.slice UA2 m uc2) m (prl a b m)) := Lib.hid ho4
    clear ho4 hgp e2
    refine wpAnyH_done (by kernel_rfl) ?_ _
    refine cut_normal ?_
    obtain ⟨r0, r1, rz, -⟩ := two_c hg4
    have H4 := Lib.hid (And.intro hx4 (ext_ty hx4 HB7q.out))
    clear hx4 hg4 c0 c1 c2 z0 d0 d1 dz
    have hs4 : wq.heap.size ≤ X.heap.size := H4.out.1.size
    go_wp2_with (at_builtin; refine wpList_append_own_at _ rfl _ _ 46 rfl wq.heap.size 60 j0 (.agg #[.int .i64 0, .int .i64 0]) 2 16 Tryd.underlying46 HJ.out.1 HJ.out.2.1 HJ.out.2.2.1 HJ.out.2.2.2 rfl (by decide) _ m (prl a b m) rfl HO4.out ⟨gp, 0, none⟩ 1 1 [.int .i64 p, .int .i64 q] rfl rfl ?ca1 ?ca2 ?ca3 ?ca4 ?ca5 ?_)
    case ca1 =>
      intro i u hu
      have e9 : ∀ o, (⟨gp, 0, none⟩ : Addr).add o = ⟨gp, o, none⟩ := fun o => by unfold Addr.add; split <;> simp_all
      rw [e9]
      match i with
      | 0 => simp at hu; subst hu; exact r0
      | 1 => simp at hu; subst hu; exact r1
      | i + 2 => simp at hu
    case ca2 => first | exact ⟨rfl, rfl⟩ | (intro u hu; simp at hu; rcases hu with rfl | rfl <;> rfl)
    case ca3 => unfold maxLen; omega
    case ca4 => omega
    case ca5 => exact hs4
    intro v' w6 hown hgrow hnil hob
    clear hnil hob r0 r1 rz
    obtain ⟨XB, xcb, rfl⟩ := shape_own hown
    have h76 := (hgrow.block s7 (Array.getElem?_eq_some_iff.1 H4.out.2).1 (fun e => own_far HO4.out H4.out.2 (by decide) e.symm)).trans H4.out.2
    have hx6 : Ext w1x w6 := by
      have hxx := HE7.out.trans H4.out.1
      exact ⟨hgrow.os.trans hxx.os, hgrow.tape.trans hxx.tape, hgrow.output.trans hxx.output, Nat.le_trans hxx.size hgrow.size, fun b hb => (hgrow.block b (Nat.lt_of_lt_of_le hb hxx.size) (fun e => by obtain ⟨cur, -, h⟩ := own_type HO4.out e.symm; have := HE7.out.size; omega)).trans (hxx.block b hb)⟩
    obtain ⟨f0, f1, f2, fz⟩ := three_c h76
    have ff : ∀ o, w6.frozen? ⟨s7, o, none⟩ = false := fun o => by simp [World.frozen?, h76]
    have h77 : (w6.setCell ⟨s7, 2, none⟩ (.slice XB (m + 1) xcb)).heap[s7]? = some (.cells #[.slice A n k, .slice A2 mc k2, .slice XB (m + 1) xcb] 48 (0, 0)) := by simp [World.setCell, Array.getElem?_modify, h76]
    have hx : Ext w1x (w6.setCell ⟨s7, 2, none⟩ (.slice XB (m + 1) xcb)) := hx6.sc HS7.out
    have hown7 : (w6.setCell ⟨s7, 2, none⟩ (.slice XB (m + 1) xcb)).ownsRow wq.heap.size 60 2 (.slice XB (m + 1) xcb) (m + 1) (prl (up a m p) (up b m q) (m + 1)) := by
      rw [prl_more]
      exact own_keep hown fun g hg => by obtain ⟨cur, hc, -⟩ := own_type hown hg; exact heap_far (ty_ne hc h76 (by decide))
    have HF7 := Lib.hid (And.intro hx (And.intro h77 hown7))
    clear hown hgrow h76 hx6 h77 hx hown7
    go_wp2_with fail
    refine NoPanic.normal ?_
    go_upto_region 6 with fail
    obtain ⟨hx, hb7, ho7⟩ := HF7.out
    clear f0 f1 f2 fz ff HF7
    generalize w6.setCell ⟨s7, 2, none⟩ (.slice XB (m + 1) xcb) = w7 at *
    have hp7 : Pv w7 (.slice A n k) (.slice A2 mc k2) (.slice XB (m + 1) xcb) n mc (m + 1) st ln y (up a m p) (up b m q) := ⟨Vl.ext HV.out.vs (E1.out.trans (HX.out.trans hx)), HV.out.vc.ext (E1.out.trans (HX.out.trans hx)), own_px ho7, HV.out.bn, HV.out.bc, HV.out.bl, by omega⟩
    have HV7 := Lib.hid hp7
    have HB7 := Lib.hid hb7
    replace HX := Lib.hid (HX.out.trans hx)
    replace HIL := Lib.hid (HIL.out.ext hx)
    clear hx hb7 ho7 hp7 hs4
    have HOF2 := Lib.hid fun X hX => of_any (.slice A n k) (.slice A2 mc k2) (.slice XB (m + 1) xcb) n mc (m + 1) st ln y (up a m p) (up b m q) X hX
    have HBS2 := Lib.hid fun (X : World) (S C B : Value) (hX : Pv X S C B (min n 12) (min mc 12) (min (m + 1) 42) st (fun i => min (ln i) 12) y (up a m p) (up b m q)) => Best_any S C B _ _ _ st _ y (up a m p) (up b m q) X hX
    have HVR := Lib.hid fun X hX => validR_any (.slice A n k) (.slice A2 mc k2) (.slice XB (m + 1) xcb) n mc (m + 1) st ln y (up a m p) (up b m q) X hX
    have hcut := @Okp.cut n mc (m + 1) st ln y (up a m p) (up b m q)
    obtain ⟨okq, hokq⟩ : ∃ t, t = okPlan (min n 12) (min mc 12) (min (m + 1) 42) st (fun i => min (ln i) 12) y (up a m p) (up b m q) := ⟨_, rfl⟩
    obtain ⟨cq, hcq⟩ : ∃ t, t = crs (min n 12) (min (m + 1) 42) st y (up a m p) (up b m q) := ⟨_, rfl⟩
    have hsame : okPlan n mc (m + 1) st ln y (up a m p) (up b m q) = okq := by rw [hokq, Bool.eq_iff_iff, okPlan_iff, okPlan_iff]; exact hcut.symm
    simp only [← hokq, ← hcq] at HBS2
    simp only [hsame] at HVR
    have HCQ := Lib.hid hcq
    clear hcut hsame hcq hokq
    obtain ⟨f0, f1, f2, fz⟩ := three_c HB7.out
    go_wp2_with fail
    refine (HOF2.out _ HV7.out).mono ?_
    rintro e w2 ⟨S2, C2, B2, rfl, hp, hx⟩
    replace HX := Lib.hid (HX.out.trans hx)
    replace HIL := Lib.hid (HIL.out.ext hx)
    replace HV7 := Lib.hid (HV7.out.ext hx)
    replace HB7 := Lib.hid (ext_ty hx HB7.out)
    have HP2 := Lib.hid hp
    clear hp hx f0 f1 f2 fz
    go_wp2_with fail
    refine (HBS2.out _ _ _ _ HP2.out).mono ?_
    rintro e w2x ⟨U2, rfl, hil, hx⟩
    replace HX := Lib.hid (HX.out.trans hx)
    replace HIL := Lib.hid (HIL.out.ext hx)
    replace HV7 := Lib.hid (HV7.out.ext hx)
    replace HB7 := Lib.hid (ext_ty hx HB7.out)
    have HIQ := Lib.hid hil
    obtain ⟨UA9, uc9, rfl, -⟩ := id hil
    clear hil hx
    cases hq : okq
    · subst hq
      have hbE : bestE false cq = 2 := rfl
      rw [hbE]
      have h20 : ((2 : Int) != 0) = true := rfl
      have h27 : ((2 : Int) == 7) = false := rfl
      clear hbE
      obtain ⟨f0, f1, f2, fz⟩ := three_c HB7.out
      go_wp2_with fail
      refine (HVR.out _ HV7.out).mono ?_
      rintro e w3 ⟨rfl, hx⟩
      replace HX := Lib.hid (HX.out.trans hx)
      clear hx f0 f1 f2 fz
      go_wp2_with fail
      refine (awake_any _).mono ?_
      rintro e w9 ⟨rfl, hx⟩
      replace HX := Lib.hid (HX.out.trans hx); clear hx
      go_wp2
      go_ret
      exact ⟨rfl, E1.out.trans HX.out⟩
    subst hq
    cases hh : cq.has
    · have hbE : bestE true cq = 7 := by unfold bestE; rw [hh]; rfl
      rw [hbE]
      have h20 : ((7 : Int) != 0) = true := rfl
      clear hbE hh
      go_wp2_with fail
      refine (awake_any _).mono ?_
      rintro e w9 ⟨rfl, hx⟩
      replace HX := Lib.hid (HX.out.trans hx); clear hx
      go_wp2
      go_ret
      exact ⟨rfl, E1.out.trans HX.out⟩
    have hbE : bestE true cq = 0 := by unfold bestE; rw [hh]; rfl
    have hbN : bestN true cq = cq.n := by unfold bestN; rw [hh]; rfl
    have hmb : ∃ v, costV true c cq.n (fun i => ((cq.best.getD i 0 : Nat) : Int)) = v ∧ costE true c cq.n (fun i => ((cq.best.getD i 0 : Nat) : Int)) = 0 ∧ nb ≤ v := by
      have h1 := HCQ.out
      have h2 := HCD.out
      rw [HMM.out.2] at h1
      rw [HMM.out.1] at h2
      have hn9 := HNB.out.2.2
      have hb9 := HNB.out.1
      have hd9 : cq.n = c.n := by rw [h1, h2]; rfl
      have he9 : ∀ i, i < c.n → c.en i = 0 := fun i _ => by rw [h2]; rfl
      have hf9 : ∀ i, i < cq.n → cq.en i = 0 := fun i _ => by rw [h1]; rfl
      have hg9 : ∀ s x, x < c.n → cq.can s x = true → c.can s x = true := fun s x _ h => by rw [h2]; rw [h1] at h; exact more_can h
      rw [hb9]
      exact more_best hn9 hd9 he9 hf9 hg9 (rnds_lt c c.n) hh
    obtain ⟨mb, hm1, hm2, hle⟩ := hmb
    have HM := Lib.hid (And.intro hm1 hm2)
    rw [hbE]
    rw [hbN] at HIQ ⊢
    clear hbE hbN hh hm1 hm2
    obtain ⟨c0, c1, c2, z0⟩ := three_c (ext_ty HX.out HB.out)
    go_wp2_with fail
    refine (HOF.out _ (HV.out.ext (E1.out.trans HX.out))).mono ?_
    rintro e w4 ⟨S4, C4, B4, rfl, hp, hx⟩
    replace HX := Lib.hid (HX.out.trans hx)
    replace HIL := Lib.hid (HIL.out.ext hx)
    replace HV7 := Lib.hid (HV7.out.ext hx)
    replace HIQ := Lib.hid (HIQ.out.ext hx)
    replace HB7 := Lib.hid (ext_ty hx HB7.out)
    have HP4 := Lib.hid hp
    clear hp hx c0 c1 c2 z0
    go_wp2_with fail
    refine (HCS.out _ _ _ _ HP4.out _ _ _ HIL.out).mono ?_
    rintro e w4x ⟨rfl, hx⟩
    rw [HCB.out.1, HCB.out.2]
    replace HX := Lib.hid (HX.out.trans hx)
    replace HIL := Lib.hid (HIL.out.ext hx)
    replace HV7 := Lib.hid (HV7.out.ext hx)
    replace HIQ := Lib.hid (HIQ.out.ext hx)
    replace HB7 := Lib.hid (ext_ty hx HB7.out)
    clear hx
    obtain ⟨c0, c1, c2, z0⟩ := three_c (ext_ty HX.out HB.out)
    go_wp2_with fail
    refine (HOF.out _ (HV.out.ext (E1.out.trans HX.out))).mono ?_
    rintro e w5 ⟨S5, C5, B5, rfl, hp, hx⟩
    replace HX := Lib.hid (HX.out.trans hx)
    replace HIL := Lib.hid (HIL.out.ext hx)
    replace HV7 := Lib.hid (HV7.out.ext hx)
    replace HIQ := Lib.hid (HIQ.out.ext hx)
    replace HB7 := Lib.hid (ext_ty hx HB7.out)
    have HP5 := Lib.hid hp
    clear hp hx c0 c1 c2 z0
    go_wp2_with fail
    refine (HCS.out _ _ _ _ HP5.out _ _ _ HIQ.out).mono ?_
    rintro e w5x ⟨rfl, hx⟩
    rw [HM.out.1, HM.out.2]
    replace HX := Lib.hid (HX.out.trans hx)
    replace HIL := Lib.hid (HIL.out.ext hx)
    replace HV7 := Lib.hid (HV7.out.ext hx)
    replace HIQ := Lib.hid (HIQ.out.ext hx)
    replace HB7 := Lib.hid (ext_ty hx HB7.out)
    clear hx
    go_wp2_with fail
    refine (awake_any _).mono ?_
    rintro e w9 ⟨rfl, hx⟩
    replace HX := Lib.hid (HX.out.trans hx); clear hx
    go_wp2
    go_ret
    exact ⟨rfl, E1.out.trans HX.out⟩
  · go_simp
    refine hK.out _ _ (Ext.drw (Ext.alc (Ext.refl _) _)) (fun _ => ?_)
    clear hK K
    try simp only [Act.put, List.setIfInBounds_toArray, List.set_cons_zero, List.set_cons_succ]
    have hx3 : Ext wq (wq.alloc (.cells #[.int .i64 p, .int .i64 q] 60)).drew := Ext.drw (Ext.alc (Ext.refl _) _)
    have hg3 : (wq.alloc (.cells #[.int .i64 p, .int .i64 q] 60)).drew.heap[wq.heap.size]? = some (.cells #[.int .i64 p, .int .i64 q] 60 (0, 0)) := heap_alloc_new wq (.cells #[.int .i64 p, .int .i64 q] 60)
    obtain ⟨gp, hgp⟩ : ∃ t, t = wq.heap.size := ⟨_, rfl⟩
    rw [← hgp] at hg3 ⊢
    generalize (wq.alloc (.cells #[.int .i64 p, .int .i64 q] 60)).drew = wa at *
    clear hgp
    refine wpAnyH_ready (rs := [2]) (by kernel_rfl) (by simp) ?_
    refine AllReadyH.cons rfl (fun K hK => ?_) AllReadyH.nil
    go_simp
    refine (cloneP_any m a b _ _ (HPX.out.ext hx3) (by omega)).mono ?_
    rintro e X ⟨U2, rfl, hown, hb2⟩
    have hx4 : Ext wq X := hx3.trans hb2
    try go_wp2_with fail
    refine hK.out _ _ hx4 (fun _ => ?_)
    clear hK K
    try simp only [Act.put, List.setIfInBounds_toArray, List.set_cons_zero, List.set_cons_succ]
    have hg4 := ext_ty hb2 hg3
    obtain ⟨UA2, uc2, rfl⟩ := shape_own hown
    have HO4 : Hid (X.ownsRow wq.heap.size 60 2 (.slice UA2 m uc2) m (prl a b m)) := Lib.hid (own_mono hown hx3.size)
    clear hown hb2 hg3 hx3
    refine wpAnyH_done (by kernel_rfl) ?_ _
    refine cut_normal ?_
    obtain ⟨r0, r1, rz, -⟩ := two_c hg4
    have H4 := Lib.hid (And.intro hx4 (ext_ty hx4 HB7q.out))
    clear hx4 hg4 c0 c1 c2 z0 d0 d1 dz
    have hs4 : wq.heap.size ≤ X.heap.size := H4.out.1.size
    go_wp2_with (at_builtin; refine wpList_append_own_at _ rfl _ _ 46 rfl wq.heap.size 60 j0 (.agg #[.int .i64 0, .int .i64 0]) 2 16 Tryd.underlying46 HJ.out.1 HJ.out.2.1 HJ.out.2.2.1 HJ.out.2.2.2 rfl (by decide) _ m (prl a b m) rfl HO4.out ⟨gp, 0, none⟩ 1 1 [.int .i64 p, .int .i64 q] rfl rfl ?cb1 ?cb2 ?cb3 ?cb4 ?cb5 ?_)
    case cb1 =>
      intro i u hu
      have e9 : ∀ o, (⟨gp, 0, none⟩ : Addr).add o = ⟨gp, o, none⟩ := fun o => by unfold Addr.add; split <;> simp_all
      rw [e9]
      match i with
      | 0 => simp at hu; subst hu; exact r0
      | 1 => simp at hu; subst hu; exact r1
      | i + 2 => simp at hu
    case cb2 => first | exact ⟨rfl, rfl⟩ | (intro u hu; simp at hu; rcases hu with rfl | rfl <;> rfl)
    case cb3 => unfold maxLen; omega
    case cb4 => omega
    case cb5 => exact hs4
    intro v' w6 hown hgrow hnil hob
    clear hnil hob r0 r1 rz
    obtain ⟨XB, xcb, rfl⟩ := shape_own hown
    have h76 := (hgrow.block s7 (Array.getElem?_eq_some_iff.1 H4.out.2).1 (fun e => own_far HO4.out H4.out.2 (by decide) e.symm)).trans H4.out.2
    have hx6 : Ext w1x w6 := by
      have hxx := HE7.out.trans H4.out.1
      exact ⟨hgrow.os.trans hxx.os, hgrow.tape.trans hxx.tape, hgrow.output.trans hxx.output, Nat.le_trans hxx.size hgrow.size, fun b hb => (hgrow.block b (Nat.lt_of_lt_of_le hb hxx.size) (fun e => by obtain ⟨cur, -, h⟩ := own_type HO4.out e.symm; have := HE7.out.size; omega)).trans (hxx.block b hb)⟩
    obtain ⟨f0, f1, f2, fz⟩ := three_c h76
    have ff : ∀ o, w6.frozen? ⟨s7, o, none⟩ = false := fun o => by simp [World.frozen?, h76]
    have h77 : (w6.setCell ⟨s7, 2, none⟩ (.slice XB (m + 1) xcb)).heap[s7]? = some (.cells #[.slice A n k, .slice A2 mc k2, .slice XB (m + 1) xcb] 48 (0, 0)) := by simp [World.setCell, Array.getElem?_modify, h76]
    have hx : Ext w1x (w6.setCell ⟨s7, 2, none⟩ (.slice XB (m + 1) xcb)) := hx6.sc HS7.out
    have hown7 : (w6.setCell ⟨s7, 2, none⟩ (.slice XB (m + 1) xcb)).ownsRow wq.heap.size 60 2 (.slice XB (m + 1) xcb) (m + 1) (prl (up a m p) (up b m q) (m + 1)) := by
      rw [prl_more]
      exact own_keep hown fun g hg => by obtain ⟨cur, hc, -⟩ := own_type hown hg; exact heap_far (ty_ne hc h76 (by decide))
    have HF7 := Lib.hid (And.intro hx (And.intro h77 hown7))
    clear hown hgrow h76 hx6 h77 hx hown7
    go_wp2_with fail
    refine NoPanic.normal ?_
    go_upto_region 6 with fail
    obtain ⟨hx, hb7, ho7⟩ := HF7.out
    clear f0 f1 f2 fz ff HF7
    generalize w6.setCell ⟨s7, 2, none⟩ (.slice XB (m + 1) xcb) = w7 at *
    have hp7 : Pv w7 (.slice A n k) (.slice A2 mc k2) (.slice XB (m + 1) xcb) n mc (m + 1) st ln y (up a m p) (up b m q) := ⟨Vl.ext HV.out.vs (E1.out.trans (HX.out.trans hx)), HV.out.vc.ext (E1.out.trans (HX.out.trans hx)), own_px ho7, HV.out.bn, HV.out.bc, HV.out.bl, by omega⟩
    have HV7 := Lib.hid hp7
    have HB7 := Lib.hid hb7
    replace HX := Lib.hid (HX.out.trans hx)
    replace HIL := Lib.hid (HIL.out.ext hx)
    clear hx hb7 ho7 hp7 hs4
    have HOF2 := Lib.hid fun X hX => of_any (.slice A n k) (.slice A2 mc k2) (.slice XB (m + 1) xcb) n mc (m + 1) st ln y (up a m p) (up b m q) X hX
    have HBS2 := Lib.hid fun (X : World) (S C B : Value) (hX : Pv X S C B (min n 12) (min mc 12) (min (m + 1) 42) st (fun i => min (ln i) 12) y (up a m p) (up b m q)) => Best_any S C B _ _ _ st _ y (up a m p) (up b m q) X hX
    have HVR := Lib.hid fun X hX => validR_any (.slice A n k) (.slice A2 mc k2) (.slice XB (m + 1) xcb) n mc (m + 1) st ln y (up a m p) (up b m q) X hX
    have hcut := @Okp.cut n mc (m + 1) st ln y (up a m p) (up b m q)
    obtain ⟨okq, hokq⟩ : ∃ t, t = okPlan (min n 12) (min mc 12) (min (m + 1) 42) st (fun i => min (ln i) 12) y (up a m p) (up b m q) := ⟨_, rfl⟩
    obtain ⟨cq, hcq⟩ : ∃ t, t = crs (min n 12) (min (m + 1) 42) st y (up a m p) (up b m q) := ⟨_, rfl⟩
    have hsame : okPlan n mc (m + 1) st ln y (up a m p) (up b m q) = okq := by rw [hokq, Bool.eq_iff_iff, okPlan_iff, okPlan_iff]; exact hcut.symm
    simp only [← hokq, ← hcq] at HBS2
    simp only [hsame] at HVR
    have HCQ := Lib.hid hcq
    clear hcut hsame hcq hokq
    obtain ⟨f0, f1, f2, fz⟩ := three_c HB7.out
    go_wp2_with fail
    refine (HOF2.out _ HV7.out).mono ?_
    rintro e w2 ⟨S2, C2, B2, rfl, hp, hx⟩
    replace HX := Lib.hid (HX.out.trans hx)
    replace HIL := Lib.hid (HIL.out.ext hx)
    replace HV7 := Lib.hid (HV7.out.ext hx)
    replace HB7 := Lib.hid (ext_ty hx HB7.out)
    have HP2 := Lib.hid hp
    clear hp hx f0 f1 f2 fz
    go_wp2_with fail
    refine (HBS2.out _ _ _ _ HP2.out).mono ?_
    rintro e w2x ⟨U2, rfl, hil, hx⟩
    replace HX := Lib.hid (HX.out.trans hx)
    replace HIL := Lib.hid (HIL.out.ext hx)
    replace HV7 := Lib.hid (HV7.out.ext hx)
    replace HB7 := Lib.hid (ext_ty hx HB7.out)
    have HIQ := Lib.hid hil
    obtain ⟨UA9, uc9, rfl, -⟩ := id hil
    clear hil hx
    cases hq : okq
    · subst hq
      have hbE : bestE false cq = 2 := rfl
      rw [hbE]
      have h20 : ((2 : Int) != 0) = true := rfl
      have h27 : ((2 : Int) == 7) = false := rfl
      clear hbE
      obtain ⟨f0, f1, f2, fz⟩ := three_c HB7.out
      go_wp2_with fail
      refine (HVR.out _ HV7.out).mono ?_
      rintro e w3 ⟨rfl, hx⟩
      replace HX := Lib.hid (HX.out.trans hx)
      clear hx f0 f1 f2 fz
      go_wp2_with fail
      refine (awake_any _).mono ?_
      rintro e w9 ⟨rfl, hx⟩
      replace HX := Lib.hid (HX.out.trans hx); clear hx
      go_wp2
      go_ret
      exact ⟨rfl, E1.out.trans HX.out⟩
    subst hq
    cases hh : cq.has
    · have hbE : bestE true cq = 7 := by unfold bestE; rw [hh]; rfl
      rw [hbE]
      have h20 : ((7 : Int) != 0) = true := rfl
      clear hbE hh
      go_wp2_with fail
      refine (awake_any _).mono ?_
      rintro e w9 ⟨rfl, hx⟩
      replace HX := Lib.hid (HX.out.trans hx); clear hx
      go_wp2
      go_ret
      exact ⟨rfl, E1.out.trans HX.out⟩
    have hbE : bestE true cq = 0 := by unfold bestE; rw [hh]; rfl
    have hbN : bestN true cq = cq.n := by unfold bestN; rw [hh]; rfl
    have hmb : ∃ v, costV true c cq.n (fun i => ((cq.best.getD i 0 : Nat) : Int)) = v ∧ costE true c cq.n (fun i => ((cq.best.getD i 0 : Nat) : Int)) = 0 ∧ nb ≤ v := by
      have h1 := HCQ.out
      have h2 := HCD.out
      rw [HMM.out.2] at h1
      rw [HMM.out.1] at h2
      have hn9 := HNB.out.2.2
      have hb9 := HNB.out.1
      have hd9 : cq.n = c.n := by rw [h1, h2]; rfl
      have he9 : ∀ i, i < c.n → c.en i = 0 := fun i _ => by rw [h2]; rfl
      have hf9 : ∀ i, i < cq.n → cq.en i = 0 := fun i _ => by rw [h1]; rfl
      have hg9 : ∀ s x, x < c.n → cq.can s x = true → c.can s x = true := fun s x _ h => by rw [h2]; rw [h1] at h; exact more_can h
      rw [hb9]
      exact more_best hn9 hd9 he9 hf9 hg9 (rnds_lt c c.n) hh
    obtain ⟨mb, hm1, hm2, hle⟩ := hmb
    have HM := Lib.hid (And.intro hm1 hm2)
    rw [hbE]
    rw [hbN] at HIQ ⊢
    clear hbE hbN hh hm1 hm2
    obtain ⟨c0, c1, c2, z0⟩ := three_c (ext_ty HX.out HB.out)
    go_wp2_with fail
    refine (HOF.out _ (HV.out.ext (E1.out.trans HX.out))).mono ?_
    rintro e w4 ⟨S4, C4, B4, rfl, hp, hx⟩
    replace HX := Lib.hid (HX.out.trans hx)
    replace HIL := Lib.hid (HIL.out.ext hx)
    replace HV7 := Lib.hid (HV7.out.ext hx)
    replace HIQ := Lib.hid (HIQ.out.ext hx)
    replace HB7 := Lib.hid (ext_ty hx HB7.out)
    have HP4 := Lib.hid hp
    clear hp hx c0 c1 c2 z0
    go_wp2_with fail
    refine (HCS.out _ _ _ _ HP4.out _ _ _ HIL.out).mono ?_
    rintro e w4x ⟨rfl, hx⟩
    rw [HCB.out.1, HCB.out.2]
    replace HX := Lib.hid (HX.out.trans hx)
    replace HIL := Lib.hid (HIL.out.ext hx)
    replace HV7 := Lib.hid (HV7.out.ext hx)
    replace HIQ := Lib.hid (HIQ.out.ext hx)
    replace HB7 := Lib.hid (ext_ty hx HB7.out)
    clear hx
    obtain ⟨c0, c1, c2, z0⟩ := three_c (ext_ty HX.out HB.out)
    go_wp2_with fail
    refine (HOF.out _ (HV.out.ext (E1.out.trans HX.out))).mono ?_
    rintro e w5 ⟨S5, C5, B5, rfl, hp, hx⟩
    replace HX := Lib.hid (HX.out.trans hx)
    replace HIL := Lib.hid (HIL.out.ext hx)
    replace HV7 := Lib.hid (HV7.out.ext hx)
    replace HIQ := Lib.hid (HIQ.out.ext hx)
    replace HB7 := Lib.hid (ext_ty hx HB7.out)
    have HP5 := Lib.hid hp
    clear hp hx c0 c1 c2 z0
    go_wp2_with fail
    refine (HCS.out _ _ _ _ HP5.out _ _ _ HIQ.out).mono ?_
    rintro e w5x ⟨rfl, hx⟩
    rw [HM.out.1, HM.out.2]
    replace HX := Lib.hid (HX.out.trans hx)
    replace HIL := Lib.hid (HIL.out.ext hx)
    replace HV7 := Lib.hid (HV7.out.ext hx)
    replace HIQ := Lib.hid (HIQ.out.ext hx)
    replace HB7 := Lib.hid (ext_ty hx HB7.out)
    clear hx
    go_wp2_with fail
    refine (awake_any _).mono ?_
    rintro e w9 ⟨rfl, hx⟩
    replace HX := Lib.hid (HX.out.trans hx); clear hx
    go_wp2
    go_ret
    exact ⟨rfl, E1.out.trans HX.out⟩
end Go.Proofs.YtlachbodibajlaaDoor
