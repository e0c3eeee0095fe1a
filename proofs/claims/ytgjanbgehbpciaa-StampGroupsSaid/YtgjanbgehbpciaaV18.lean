/- Walks: the law StampApplies. -/
import Derived.Test.YtgjanbgehbpciaaV14
import Derived.Test.YtgjanbgehbpciaaV17
namespace Go.Proofs.Ytgjanbgehbpciaa
open Go.RowKit

theorem vst_take (w h : Int) (l : List Int) : vst w h (l.take 70) = vst w h l := by
  by_cases h7 : l.length ≤ 70
  · rw [List.take_of_length_le h7]
  · unfold vst
    cases hs : okSize w h
    · rfl
    · have := area_in hs
      have e1 : decide (((l.take 70).length : Int) = w * h) = false := by rw [List.length_take]; simp; omega
      have e2 : decide ((l.length : Int) = w * h) = false := by simp; omega
      rw [e1, e2]
      rfl
theorem vst_short {w h : Int} {l : List Int} (hv : vst w h l = true) : l.take 70 = l := by
  obtain ⟨hs, hl, -⟩ := vst_len hv
  have := area_in hs
  exact List.take_of_length_le (by omega)

/-- the ints l lie at v, not in block g -/
def Ilo (w : World) (g : Nat) (v : Value) (l : List Int) : Prop :=
  ∃ A c, v = .slice A l.length c ∧ l.length ≤ c ∧ c ≤ 9223372036854775807 ∧
    (0 < l.length → ∃ b off, A = some ⟨b, off, none⟩ ∧ b ≠ g ∧ b < w.heap.size ∧ ∀ j, j < l.length → w.cell? ⟨b, off + j, none⟩ = some (.int .i64 (l.getD j 0)))
theorem Ilo.il {w : World} {g : Nat} {v : Value} {l : List Int} (h : Ilo w g v l) : Il w v l := by
  obtain ⟨A, c, rfl, h1, h2, h4⟩ := h
  refine ⟨A, c, rfl, h1, h2, fun hp => ?_⟩
  obtain ⟨b, off, rfl, -, hb, hc⟩ := h4 hp
  exact ⟨b, off, rfl, hb, hc⟩
theorem Ilo.set {w : World} {g i : Nat} {u v : Value} {l : List Int} (h : Ilo w g v l) : Ilo (w.setCell ⟨g, i, none⟩ u) g v l := by
  obtain ⟨A, c, rfl, h1, h2, h4⟩ := h
  refine ⟨A, c, rfl, h1, h2, fun hp => ?_⟩
  obtain ⟨b, off, rfl, hne, hb, hc⟩ := h4 hp
  refine ⟨b, off, rfl, hne, by simpa [World.setCell] using hb, fun j hj => ?_⟩
  rw [World.cell?_setCell_other _ _ _ _ (by intro e; injection e with e; exact hne e.symm)]
  exact hc j hj
theorem Il.fresh {w : World} {g B : Nat} {v : Value} {l : List Int} (h : Il w v l) (hf : Fr B v) (hg : g < B) : Ilo w g v l := by
  obtain ⟨A, c, rfl, h1, h2, h4⟩ := h
  refine ⟨A, c, rfl, h1, h2, fun hp => ?_⟩
  obtain ⟨b, off, rfl, hb, hc⟩ := h4 hp
  have hB : B ≤ b := hf _ _ _ rfl
  exact ⟨b, off, rfl, by omega, hb, hc⟩
theorem Il.old {w Y : World} {g : Nat} {v : Value} {l : List Int} (h : Il w v l) (hg : w.heap.size ≤ g) (e : Ext w Y) : Ilo Y g v l := by
  obtain ⟨A, c, rfl, h1, h2, h4⟩ := h
  refine ⟨A, c, rfl, h1, h2, fun hp => ?_⟩
  obtain ⟨b, off, rfl, hb, hc⟩ := h4 hp
  exact ⟨b, off, rfl, by omega, Nat.lt_of_lt_of_le hb e.size, fun j hj => keepAt e hb (hc j hj)⟩

/-- are a stamp and a move right? -/
def okA (w h : Int) (l : List Int) (m : Mv) : Bool := vst w h l && has w h m
/-- the width, the height, the cells and the error of the answer -/
def ansW (w h : Int) (l : List Int) (m : Mv) (x : Int) : Int := if okA w h l m = true then x else 0
def ansL (w h : Int) (l : List Int) (m : Mv) : List Int := if okA w h l m = true then apl w.toNat h.toNat m l l.length else []
def ansE (w h : Int) (l : List Int) (m : Mv) : Int := if okA w h l m = true then 0 else 2
theorem ansL_len (w h : Int) (l : List Int) (m : Mv) : (ansL w h l m).length ≤ 1000 := by
  unfold ansL
  split
  · rename_i hk
    unfold okA at hk
    simp only [Bool.and_eq_true] at hk
    obtain ⟨hs, -, -⟩ := vst_len hk.1
    have ha := area_in hs
    rw [okSize_iff] at hs
    rw [apl_len]
    have e : ((w.toNat * h.toNat : Nat) : Int) = w * h := by
      rw [Int.natCast_mul, Int.toNat_of_nonneg (by omega), Int.toNat_of_nonneg (by omega)]
    omega
  · simp

/-- Apply, in one contract -/
theorem apply_any (w h : Int) (m : Mv) (A : Option Addr) (n c : Nat) (l : List Int) (W : World) (hl : Il W (.slice A n c) l) :
    Calls Try.prog 13 #[.agg #[.int .i64 m.dx, .int .i64 m.dy, .int .i64 m.t, .bool m.f], .agg #[.int .i64 w, .int .i64 h, .slice A n c]] W fun e W' => ∃ A2 n2 c2, e = .returned (.tuple #[.agg #[.int .i64 (ansW w h l m w), .int .i64 (ansW w h l m h), .slice A2 n2 c2], .int .i64 (ansE w h l m)]) ∧ Il W' (.slice A2 n2 c2) (ansL w h l m) ∧ Fr W.heap.size (.slice A2 n2 c2) ∧ Ext W W' := by
  unfold ansW ansE ansL okA
  cases hv : vst w h l
  · simp only [Bool.false_and, Bool.false_eq_true, if_false]
    refine (apply_vf w h m A n c l W hl hv).mono ?_
    rintro e W' ⟨rfl, hx⟩
    exact ⟨none, 0, 0, rfl, Il.nil_ _, (fun a n c e => by cases e), hx⟩
  · cases hm : has w h m
    · simp only [Bool.and_false, Bool.false_eq_true, if_false]
      refine (apply_vt_hf w h m A n c l W hl hv hm).mono ?_
      rintro e W' ⟨rfl, hx⟩
      exact ⟨none, 0, 0, rfl, Il.nil_ _, (fun a n c e => by cases e), hx⟩
    · simp only [Bool.and_true, if_true]
      have hs := (vst_len hv).1
      rw [okSize_iff] at hs
      obtain ⟨w', rfl⟩ : ∃ w' : Nat, w = w' := ⟨w.toNat, by omega⟩
      obtain ⟨h', rfl⟩ : ∃ h' : Nat, h = h' := ⟨h.toNat, by omega⟩
      refine (apply_ok w' h' m A n c l W hl hv hm).mono ?_
      rintro e W' ⟨A', rfl, hil, hfr, hx⟩
      rw [hl.len] at hil hfr ⊢
      exact ⟨A', _, _, rfl, hil, hfr, hx⟩

/-- the reference's Apply, of a stamp -/
theorem applyR_any (w h : Int) (m : Mv) (A : Option Addr) (n c : Nat) (l : List Int) (W : World) (hv : vst w h l = true) (hm : has w h m = true) (hl : Il W (.slice A n c) l) :
    Calls Try.prog 22 #[.agg #[.int .i64 m.dx, .int .i64 m.dy, .int .i64 m.t, .bool m.f], .agg #[.int .i64 w, .int .i64 h, .slice A n c]] W fun e W' => ∃ A', e = .returned (.agg #[.int .i64 w, .int .i64 h, .slice A' n n]) ∧ Il W' (.slice A' n n) (ansL w h l m) ∧ Ext W W' := by
  have hk : okA w h l m = true := by unfold okA; rw [hv, hm]; rfl
  unfold ansL
  rw [if_pos hk]
  have hn := hl.len
  obtain ⟨hs, hlen, -⟩ := vst_len hv
  obtain ⟨A', c', he, h1, h2, h4⟩ := hl
  injection he with e1 e2 e3
  subst e1 e3
  have ha := area_in hs
  rw [okSize_iff] at hs
  rw [has_iff] at hm
  obtain ⟨w', rfl⟩ : ∃ w' : Nat, w = w' := ⟨w.toNat, by omega⟩
  obtain ⟨h', rfl⟩ : ∃ h' : Nat, h = h' := ⟨h.toNat, by omega⟩
  have e : ((w' * h' : Nat) : Int) = (w' : Int) * h' := by simp
  obtain ⟨b, off, rfl, hbl, hc⟩ := h4 (by omega)
  obtain ⟨dx, dy, t, f⟩ := m
  simp only at hm ⊢
  obtain ⟨k, rfl⟩ : ∃ k : Nat, t = k := ⟨t.toNat, by omega⟩
  rw [← hn]
  exact applyR_c w' h' dx dy k f b off c l n W (by omega) (by omega) (by omega) (by omega) hbl (fun j hj => hc j (by omega))

/-- behind the first call -/
def ACut (W2 : World) (x y er : Int) (res : List Int) (a b : Value) (wx : World) : Prop :=
  ∃ g5 A1 n1 c1, a = .pointer (some ⟨g5, 0, none⟩) ∧ b = .int .i64 er ∧ Q3 wx g5 (.int .i64 x) (.int .i64 y) (.slice A1 n1 c1) ∧ Il wx (.slice A1 n1 c1) res ∧ g5 < wx.heap.size ∧ Ext W2 wx

set_option maxHeartbeats 4000000 in
set_option maxRecDepth 100000 in
theorem stampApplies_walk (w h : Int) (A : Option Addr) (n c : Nat) (l : List Int) (m : Mv) (W : World) (hl : Ins W A n c l) :
    Calls Try.prog 3 #[.agg #[.int .i64 w, .int .i64 h, .slice A n c], .agg #[.int .i64 m.dx, .int .i64 m.dy, .int .i64 m.t, .bool m.f]] W fun e W' => e = .returned (.bool true) ∧ Ext W W' := by
  obtain ⟨x, hx⟩ : ∃ x, x = ansW w h (l.take 70) m w := ⟨_, rfl⟩
  obtain ⟨y, hy⟩ : ∃ y, y = ansW w h (l.take 70) m h := ⟨_, rfl⟩
  obtain ⟨er, her⟩ : ∃ er, er = ansE w h (l.take 70) m := ⟨_, rfl⟩
  obtain ⟨res, hres⟩ : ∃ res, res = ansL w h (l.take 70) m := ⟨_, rfl⟩
  have cap : ∀ A' n' c' X, Il X (.slice A' n' c') (l.take 70) → Calls Try.prog 13 #[.agg #[.int .i64 m.dx, .int .i64 m.dy, .int .i64 m.t, .bool m.f], .agg #[.int .i64 w, .int .i64 h, .slice A' n' c']] X fun e W' => ∃ A2 n2 c2, e = .returned (.tuple #[.agg #[.int .i64 x, .int .i64 y, .slice A2 n2 c2], .int .i64 er]) ∧ Il W' (.slice A2 n2 c2) res ∧ Fr X.heap.size (.slice A2 n2 c2) ∧ Ext X W' :=
    fun A' n' c' X hX => by rw [hx, hy, her, hres]; exact apply_any w h m A' n' c' (l.take 70) X hX
  have cst : ∀ X, Ext W X → Calls Try.prog 15 #[.agg #[.int .i64 w, .int .i64 h, .slice A n c]] X fun e W' => ∃ A' n' c', e = .returned (.agg #[.int .i64 w, .int .i64 h, .slice A' n' c']) ∧ Il W' (.slice A' n' c') (l.take 70) ∧ Ext X W' :=
    fun X hX => (stamps_any w h A n c l X (hl.ext hX)).mono (fun _ _ ⟨A', n', c', e, a, _, b⟩ => ⟨A', n', c', e, a, b⟩)
  have cmo : ∀ X, Calls Try.prog 14 #[.agg #[.int .i64 m.dx, .int .i64 m.dy, .int .i64 m.t, .bool m.f]] X fun e W' => e = .returned (.agg #[.int .i64 m.dx, .int .i64 m.dy, .int .i64 m.t, .bool m.f]) ∧ Ext X W' := fun X => move_any m X
  have CAP := Lib.hid cap; have CST := Lib.hid cst; have CMO := Lib.hid cmo
  have HXY := Lib.hid (And.intro hx (And.intro hy (And.intro her hres)))
  clear cap cst cmo hx hy her hres
  have HL := Lib.hid hl; clear hl
  go_enter Try.func3, Try.ntmps3
  go_wp2_with fail
  have q0 : Q3 ((W.alloc (.cells #[.int .i64 w, .int .i64 h, .slice A n c] 24)).alloc (.cells #[.int .i64 m.dx, .int .i64 m.dy, .int .i64 m.t, .bool m.f] 26)) W.heap.size (.int .i64 w) (.int .i64 h) (.slice A n c) := by
    refine ⟨?_, ?_, ?_⟩ <;> (rw [World.cell?_alloc_past _ _ _ (by simp), World.cell?_alloc_new]; rfl)
  have q1 : Q4 ((W.alloc (.cells #[.int .i64 w, .int .i64 h, .slice A n c] 24)).alloc (.cells #[.int .i64 m.dx, .int .i64 m.dy, .int .i64 m.t, .bool m.f] 26)) (W.heap.size + 1) (.int .i64 m.dx) (.int .i64 m.dy) (.int .i64 m.t) (.bool m.f) := by
    refine ⟨?_, ?_, ?_, ?_⟩ <;> (rw [World.cell?_alloc_at _ _ _ _ (by simp)]; rfl)
  have bb := al2 W (.cells #[.int .i64 w, .int .i64 h, .slice A n c] 24) (.cells #[.int .i64 m.dx, .int .i64 m.dy, .int .i64 m.t, .bool m.f] 26)
  have zz : ((W.alloc (.cells #[.int .i64 w, .int .i64 h, .slice A n c] 24)).alloc (.cells #[.int .i64 m.dx, .int .i64 m.dy, .int .i64 m.t, .bool m.f] 26)).heap.size = W.heap.size + 1 + 1 := by simp
  generalize ((W.alloc (.cells #[.int .i64 w, .int .i64 h, .slice A n c] 24)).alloc (.cells #[.int .i64 m.dx, .int .i64 m.dy, .int .i64 m.t, .bool m.f] 26)) = W2 at *
  have zle : W.heap.size + 1 + 1 ≤ W2.heap.size := by omega
  have BB : Hid (Ext W W2) := Lib.hid bb; clear bb zz
  have Q0 := Lib.hid q0; have Q1 := Lib.hid q1; clear q0 q1

  go_upto_region 2 with fail
  go_cut [5, 6] (fun a b wx => ACut W2 x y er res a b wx)
  case first =>
    refine wp_region_noPanic ?_
    refine wp_split (S := fun X => Ext W2 X) 10 (by kernel_rfl) (by kernel_rfl) (Ext.drw (Ext.refl _)) ?_
    simp only [List.take_succ_cons, List.take_zero, List.drop_succ_cons, List.drop_zero]
    refine take_at 0 (some 8) (.agg #[.int .i64 m.dx, .int .i64 m.dy, .int .i64 m.t, .bool m.f]) rfl rfl (by kernel_rfl) (by kernel_rfl) (by kernel_rfl) (fun _ _ _ h => h) (Or.inl ⟨by rfl, fun w' hSw => ?_⟩) (Ext.drw (Ext.refl _)) ?_
    · have q0 := keepAt hSw (by omega) Q1.out.1
      have q1 := keepAt hSw (by omega) Q1.out.2.1
      have q2 := keepAt hSw (by omega) Q1.out.2.2.1
      have q3 := keepAt hSw (by omega) Q1.out.2.2.2
      clear hSw
      go_simp
      all_goals (with_reducible rfl)
    try simp only [Act.put, List.setIfInBounds_toArray, List.set_cons_zero, List.set_cons_succ]
    refine take_at 2 (some 10) (.agg #[.int .i64 w, .int .i64 h, .slice A n c]) rfl rfl (by kernel_rfl) (by kernel_rfl) (by kernel_rfl) (fun _ _ _ h => h) (Or.inl ⟨by rfl, fun w' hSw => ?_⟩) (Ext.drw (Ext.refl _)) ?_
    · have q0 := keepAt hSw (by omega) Q0.out.1
      have q1 := keepAt hSw (by omega) Q0.out.2.1
      have q2 := keepAt hSw (by omega) Q0.out.2.2
      clear hSw
      go_simp
      all_goals (with_reducible rfl)
    try simp only [Act.put, List.setIfInBounds_toArray, List.set_cons_zero, List.set_cons_succ]
    refine wpAnyH_ready (rs := [1, 8]) (by kernel_rfl) (by simp) ?_
    refine AllReadyH.cons rfl (fun K hK => ?_) (AllReadyH.cons rfl (fun K hK => ?_) (AllReadyH.nil))
    · go_simp
      refine (CMO.out _).mono ?_
      rintro e v1 ⟨rfl, hb⟩
      have e1 : Ext W2 v1 := (Ext.drw (Ext.refl _)).trans hb
      try go_wp2_with fail
      refine hK.out _ _ e1 (fun _ => ?_)
      clear hK K
      try simp only [Act.put, List.setIfInBounds_toArray, List.set_cons_zero, List.set_cons_succ]
      refine wpAnyH_ready (rs := [3, 8]) (by kernel_rfl) (by simp) ?_
      refine AllReadyH.cons rfl (fun K hK => ?_) (AllReadyH.cons rfl (fun K hK => ?_) (AllReadyH.nil))
      · go_simp
        refine (CST.out _ (BB.out.trans (e1))).mono ?_
        rintro e v3 ⟨A', n', c', rfl, hil, hb⟩
        have e3 : Ext W2 v3 := (e1).trans hb
        try go_wp2_with fail
        refine hK.out _ _ e3 (fun _ => ?_)
        clear hK K
        try simp only [Act.put, List.setIfInBounds_toArray, List.set_cons_zero, List.set_cons_succ]
        refine wpAnyH_ready (rs := [4, 8]) (by kernel_rfl) (by simp) ?_
        refine AllReadyH.cons rfl (fun K hK => ?_) (AllReadyH.cons rfl (fun K hK => ?_) (AllReadyH.nil))
        · go_simp
          refine (CAP.out A' n' c' _ (hil)).mono ?_
          rintro e v4 ⟨A2, n2, c2, rfl, hres, hfr, hb⟩
          have e4 : Ext W2 v4 := (e3).trans hb
          try go_wp2_with fail
          refine hK.out _ _ e4 (fun _ => ?_)
          clear hK K
          try simp only [Act.put, List.setIfInBounds_toArray, List.set_cons_zero, List.set_cons_succ]
          refine take_at 5 (some 7) (.tuple #[.agg #[.int .i64 x, .int .i64 y, .slice A2 n2 c2], .int .i64 er]) rfl rfl (by kernel_rfl) (by kernel_rfl) (by kernel_rfl) (fun _ _ _ h => h) (Or.inl ⟨by rfl, fun w' hSw => ?_⟩) (e4) ?_
          · skip
            clear hSw
            go_simp
            all_goals (with_reducible rfl)
          try simp only [Act.put, List.setIfInBounds_toArray, List.set_cons_zero, List.set_cons_succ]
          refine take_at 6 (some 13) (.agg #[.int .i64 x, .int .i64 y, .slice A2 n2 c2]) rfl rfl (by kernel_rfl) (by kernel_rfl) (by kernel_rfl) (fun _ _ _ h => h) (Or.inl ⟨by rfl, fun w' hSw => ?_⟩) (e4) ?_
          · skip
            clear hSw
            go_simp
            all_goals (with_reducible rfl)
          try simp only [Act.put, List.setIfInBounds_toArray, List.set_cons_zero, List.set_cons_succ]
          refine take_at 7 (some 14) (.int .i64 er) rfl rfl (by kernel_rfl) (by kernel_rfl) (by kernel_rfl) (fun _ _ _ h => h) (Or.inl ⟨by rfl, fun w' hSw => ?_⟩) (e4) ?_
          · skip
            clear hSw
            go_simp
            all_goals (with_reducible rfl)
          try simp only [Act.put, List.setIfInBounds_toArray, List.set_cons_zero, List.set_cons_succ]
          refine wpAnyH_ready (rs := [8]) (by kernel_rfl) (by simp) ?_
          refine AllReadyH.cons rfl (fun K hK => ?_) (AllReadyH.nil)
          · go_simp
            refine hK.out _ _ ((e4).alc _) (fun _ => ?_)
            clear hK K
            try simp only [Act.put, List.setIfInBounds_toArray, List.set_cons_zero, List.set_cons_succ]
            have tb : TB (v4.alloc (.cells #[.int .i64 0, .int .i64 0, .slice none 0 0] 27)) v4.heap.size := TB.new _ _ _ _ _
            have ily : Ilo (v4.alloc (.cells #[.int .i64 0, .int .i64 0, .slice none 0 0] 27)) v4.heap.size (.slice A2 n2 c2) res := hres.old (Nat.le_refl _) (al1 v4 (.cells #[.int .i64 0, .int .i64 0, .slice none 0 0] 27))
            have ey : Ext W2 (v4.alloc (.cells #[.int .i64 0, .int .i64 0, .slice none 0 0] 27)) := ((e4).alc _)
            have l5 : W2.heap.size ≤ v4.heap.size := e4.size
            clear hres hfr
            generalize (v4.alloc (.cells #[.int .i64 0, .int .i64 0, .slice none 0 0] 27)) = Y at *
            have FRH := Lib.hid ily
            have TBh := Lib.hid tb; have EYh := Lib.hid ey
            obtain ⟨⟨_, _, _, r0, r1, r2⟩, rf⟩ := tb.facts
            have lt5 := tb.lt
            clear tb ey ily
            refine wpAnyH_ready (rs := [9]) (by kernel_rfl) (by simp) ?_
            refine AllReadyH.cons rfl (fun K hK => ?_) AllReadyH.nil
            go_simp
            refine hK.out _ _ (((EYh.out.sc (by omega)).sc (by omega)).sc (by omega)) (fun _ => ?_)
            clear hK K
            try simp only [Act.put, List.setIfInBounds_toArray, List.set_cons_zero, List.set_cons_succ]
            refine wpAnyH_done (by kernel_rfl) ?_ _
            refine cut_normal ?_
            go_wp2_with fail
            refine NoPanic.normal ?_
            go_wp2_with fail
            go_meet
            exact ⟨_, A2, n2, c2, rfl, rfl, TBh.out.put _ _ _, FRH.out.set.set.set.il, by simp [World.setCell] <;> omega, ((EYh.out.sc (by omega)).sc (by omega)).sc (by omega)⟩
        · go_simp
          refine hK.out _ _ ((e3).alc _) (fun _ => ?_)
          clear hK K
          try simp only [Act.put, List.setIfInBounds_toArray, List.set_cons_zero, List.set_cons_succ]
          have tb0 : TB (v3.alloc (.cells #[.int .i64 0, .int .i64 0, .slice none 0 0] 27)) v3.heap.size := TB.new v3 (.int .i64 0) (.int .i64 0) (.slice none 0 0) 27
          have l50 : W2.heap.size ≤ v3.heap.size := (e3).size
          refine wpAnyH_ready (rs := [4]) (by kernel_rfl) (by simp) ?_
          refine AllReadyH.cons rfl (fun K hK => ?_) (AllReadyH.nil)
          · go_simp
            refine (CAP.out A' n' c' _ ((hil.below (al1 v3 (.cells #[.int .i64 0, .int .i64 0, .slice none 0 0] 27))))).mono ?_
            rintro e v4 ⟨A2, n2, c2, rfl, hres, hfr, hb⟩
            have e4 : Ext W2 v4 := ((e3).alc _).trans hb
            have tb4 := tb0.ext hb
            try go_wp2_with fail
            refine hK.out _ _ e4 (fun _ => ?_)
            clear hK K
            try simp only [Act.put, List.setIfInBounds_toArray, List.set_cons_zero, List.set_cons_succ]
            refine take_at 5 (some 7) (.tuple #[.agg #[.int .i64 x, .int .i64 y, .slice A2 n2 c2], .int .i64 er]) rfl rfl (by kernel_rfl) (by kernel_rfl) (by kernel_rfl) (fun _ _ _ h => h) (Or.inl ⟨by rfl, fun w' hSw => ?_⟩) (e4) ?_
            · skip
              clear hSw
              go_simp
              all_goals (with_reducible rfl)
            try simp only [Act.put, List.setIfInBounds_toArray, List.set_cons_zero, List.set_cons_succ]
            refine take_at 6 (some 13) (.agg #[.int .i64 x, .int .i64 y, .slice A2 n2 c2]) rfl rfl (by kernel_rfl) (by kernel_rfl) (by kernel_rfl) (fun _ _ _ h => h) (Or.inl ⟨by rfl, fun w' hSw => ?_⟩) (e4) ?_
            · skip
              clear hSw
              go_simp
              all_goals (with_reducible rfl)
            try simp only [Act.put, List.setIfInBounds_toArray, List.set_cons_zero, List.set_cons_succ]
            refine take_at 7 (some 14) (.int .i64 er) rfl rfl (by kernel_rfl) (by kernel_rfl) (by kernel_rfl) (fun _ _ _ h => h) (Or.inl ⟨by rfl, fun w' hSw => ?_⟩) (e4) ?_
            · skip
              clear hSw
              go_simp
              all_goals (with_reducible rfl)
            try simp only [Act.put, List.setIfInBounds_toArray, List.set_cons_zero, List.set_cons_succ]
            have tb : TB v4 (v3.heap.size) := tb4
            have l5 := l50
            have ily : Ilo v4 (v3.heap.size) (.slice A2 n2 c2) res := hres.fresh hfr (by have := tb0.lt; exact this)
            have ey : Ext W2 v4 := e4
            clear hres hfr
            generalize v4 = Y at *
            have FRH := Lib.hid ily
            have TBh := Lib.hid tb; have EYh := Lib.hid ey
            obtain ⟨⟨_, _, _, r0, r1, r2⟩, rf⟩ := tb.facts
            have lt5 := tb.lt
            clear tb ey ily
            refine wpAnyH_ready (rs := [9]) (by kernel_rfl) (by simp) ?_
            refine AllReadyH.cons rfl (fun K hK => ?_) AllReadyH.nil
            go_simp
            refine hK.out _ _ (((EYh.out.sc (by omega)).sc (by omega)).sc (by omega)) (fun _ => ?_)
            clear hK K
            try simp only [Act.put, List.setIfInBounds_toArray, List.set_cons_zero, List.set_cons_succ]
            refine wpAnyH_done (by kernel_rfl) ?_ _
            refine cut_normal ?_
            go_wp2_with fail
            refine NoPanic.normal ?_
            go_wp2_with fail
            go_meet
            exact ⟨_, A2, n2, c2, rfl, rfl, TBh.out.put _ _ _, FRH.out.set.set.set.il, by simp [World.setCell] <;> omega, ((EYh.out.sc (by omega)).sc (by omega)).sc (by omega)⟩
      · go_simp
        refine hK.out _ _ ((e1).alc _) (fun _ => ?_)
        clear hK K
        try simp only [Act.put, List.setIfInBounds_toArray, List.set_cons_zero, List.set_cons_succ]
        have tb0 : TB (v1.alloc (.cells #[.int .i64 0, .int .i64 0, .slice none 0 0] 27)) v1.heap.size := TB.new v1 (.int .i64 0) (.int .i64 0) (.slice none 0 0) 27
        have l50 : W2.heap.size ≤ v1.heap.size := (e1).size
        refine wpAnyH_ready (rs := [3]) (by kernel_rfl) (by simp) ?_
        refine AllReadyH.cons rfl (fun K hK => ?_) (AllReadyH.nil)
        · go_simp
          refine (CST.out _ (BB.out.trans ((e1).alc _))).mono ?_
          rintro e v3 ⟨A', n', c', rfl, hil, hb⟩
          have e3 : Ext W2 v3 := ((e1).alc _).trans hb
          have tb3 := tb0.ext hb
          try go_wp2_with fail
          refine hK.out _ _ e3 (fun _ => ?_)
          clear hK K
          try simp only [Act.put, List.setIfInBounds_toArray, List.set_cons_zero, List.set_cons_succ]
          refine wpAnyH_ready (rs := [4]) (by kernel_rfl) (by simp) ?_
          refine AllReadyH.cons rfl (fun K hK => ?_) (AllReadyH.nil)
          · go_simp
            refine (CAP.out A' n' c' _ (hil)).mono ?_
            rintro e v4 ⟨A2, n2, c2, rfl, hres, hfr, hb⟩
            have e4 : Ext W2 v4 := (e3).trans hb
            have tb4 := tb3.ext hb
            try go_wp2_with fail
            refine hK.out _ _ e4 (fun _ => ?_)
            clear hK K
            try simp only [Act.put, List.setIfInBounds_toArray, List.set_cons_zero, List.set_cons_succ]
            refine take_at 5 (some 7) (.tuple #[.agg #[.int .i64 x, .int .i64 y, .slice A2 n2 c2], .int .i64 er]) rfl rfl (by kernel_rfl) (by kernel_rfl) (by kernel_rfl) (fun _ _ _ h => h) (Or.inl ⟨by rfl, fun w' hSw => ?_⟩) (e4) ?_
            · skip
              clear hSw
              go_simp
              all_goals (with_reducible rfl)
            try simp only [Act.put, List.setIfInBounds_toArray, List.set_cons_zero, List.set_cons_succ]
            refine take_at 6 (some 13) (.agg #[.int .i64 x, .int .i64 y, .slice A2 n2 c2]) rfl rfl (by kernel_rfl) (by kernel_rfl) (by kernel_rfl) (fun _ _ _ h => h) (Or.inl ⟨by rfl, fun w' hSw => ?_⟩) (e4) ?_
            · skip
              clear hSw
              go_simp
              all_goals (with_reducible rfl)
            try simp only [Act.put, List.setIfInBounds_toArray, List.set_cons_zero, List.set_cons_succ]
            refine take_at 7 (some 14) (.int .i64 er) rfl rfl (by kernel_rfl) (by kernel_rfl) (by kernel_rfl) (fun _ _ _ h => h) (Or.inl ⟨by rfl, fun w' hSw => ?_⟩) (e4) ?_
            · skip
              clear hSw
              go_simp
              all_goals (with_reducible rfl)
            try simp only [Act.put, List.setIfInBounds_toArray, List.set_cons_zero, List.set_cons_succ]
            have tb : TB v4 (v1.heap.size) := tb4
            have l5 := l50
            have ily : Ilo v4 (v1.heap.size) (.slice A2 n2 c2) res := hres.fresh hfr (by have := tb3.lt; exact this)
            have ey : Ext W2 v4 := e4
            clear hres hfr
            generalize v4 = Y at *
            have FRH := Lib.hid ily
            have TBh := Lib.hid tb; have EYh := Lib.hid ey
            obtain ⟨⟨_, _, _, r0, r1, r2⟩, rf⟩ := tb.facts
            have lt5 := tb.lt
            clear tb ey ily
            refine wpAnyH_ready (rs := [9]) (by kernel_rfl) (by simp) ?_
            refine AllReadyH.cons rfl (fun K hK => ?_) AllReadyH.nil
            go_simp
            refine hK.out _ _ (((EYh.out.sc (by omega)).sc (by omega)).sc (by omega)) (fun _ => ?_)
            clear hK K
            try simp only [Act.put, List.setIfInBounds_toArray, List.set_cons_zero, List.set_cons_succ]
            refine wpAnyH_done (by kernel_rfl) ?_ _
            refine cut_normal ?_
            go_wp2_with fail
            refine NoPanic.normal ?_
            go_wp2_with fail
            go_meet
            exact ⟨_, A2, n2, c2, rfl, rfl, TBh.out.put _ _ _, FRH.out.set.set.set.il, by simp [World.setCell] <;> omega, ((EYh.out.sc (by omega)).sc (by omega)).sc (by omega)⟩
    · go_simp
      refine hK.out _ _ (Ext.drw ((Ext.refl _).alc _)) (fun _ => ?_)
      clear hK K
      try simp only [Act.put, List.setIfInBounds_toArray, List.set_cons_zero, List.set_cons_succ]
      have tb0 : TB (W2.alloc (.cells #[.int .i64 0, .int .i64 0, .slice none 0 0] 27)).drew W2.heap.size := TB.new W2 (.int .i64 0) (.int .i64 0) (.slice none 0 0) 27
      have l50 : W2.heap.size ≤ W2.heap.size := Nat.le_refl _
      refine wpAnyH_ready (rs := [1]) (by kernel_rfl) (by simp) ?_
      refine AllReadyH.cons rfl (fun K hK => ?_) (AllReadyH.nil)
      · go_simp
        refine (CMO.out _).mono ?_
        rintro e v1 ⟨rfl, hb⟩
        have e1 : Ext W2 v1 := (Ext.drw ((Ext.refl _).alc _)).trans hb
        have tb1 := tb0.ext hb
        try go_wp2_with fail
        refine hK.out _ _ e1 (fun _ => ?_)
        clear hK K
        try simp only [Act.put, List.setIfInBounds_toArray, List.set_cons_zero, List.set_cons_succ]
        refine wpAnyH_ready (rs := [3]) (by kernel_rfl) (by simp) ?_
        refine AllReadyH.cons rfl (fun K hK => ?_) (AllReadyH.nil)
        · go_simp
          refine (CST.out _ (BB.out.trans (e1))).mono ?_
          rintro e v3 ⟨A', n', c', rfl, hil, hb⟩
          have e3 : Ext W2 v3 := (e1).trans hb
          have tb3 := tb1.ext hb
          try go_wp2_with fail
          refine hK.out _ _ e3 (fun _ => ?_)
          clear hK K
          try simp only [Act.put, List.setIfInBounds_toArray, List.set_cons_zero, List.set_cons_succ]
          refine wpAnyH_ready (rs := [4]) (by kernel_rfl) (by simp) ?_
          refine AllReadyH.cons rfl (fun K hK => ?_) (AllReadyH.nil)
          · go_simp
            refine (CAP.out A' n' c' _ (hil)).mono ?_
            rintro e v4 ⟨A2, n2, c2, rfl, hres, hfr, hb⟩
            have e4 : Ext W2 v4 := (e3).trans hb
            have tb4 := tb3.ext hb
            try go_wp2_with fail
            refine hK.out _ _ e4 (fun _ => ?_)
            clear hK K
            try simp only [Act.put, List.setIfInBounds_toArray, List.set_cons_zero, List.set_cons_succ]
            refine take_at 5 (some 7) (.tuple #[.agg #[.int .i64 x, .int .i64 y, .slice A2 n2 c2], .int .i64 er]) rfl rfl (by kernel_rfl) (by kernel_rfl) (by kernel_rfl) (fun _ _ _ h => h) (Or.inl ⟨by rfl, fun w' hSw => ?_⟩) (e4) ?_
            · skip
              clear hSw
              go_simp
              all_goals (with_reducible rfl)
            try simp only [Act.put, List.setIfInBounds_toArray, List.set_cons_zero, List.set_cons_succ]
            refine take_at 6 (some 13) (.agg #[.int .i64 x, .int .i64 y, .slice A2 n2 c2]) rfl rfl (by kernel_rfl) (by kernel_rfl) (by kernel_rfl) (fun _ _ _ h => h) (Or.inl ⟨by rfl, fun w' hSw => ?_⟩) (e4) ?_
            · skip
              clear hSw
              go_simp
              all_goals (with_reducible rfl)
            try simp only [Act.put, List.setIfInBounds_toArray, List.set_cons_zero, List.set_cons_succ]
            refine take_at 7 (some 14) (.int .i64 er) rfl rfl (by kernel_rfl) (by kernel_rfl) (by kernel_rfl) (fun _ _ _ h => h) (Or.inl ⟨by rfl, fun w' hSw => ?_⟩) (e4) ?_
            · skip
              clear hSw
              go_simp
              all_goals (with_reducible rfl)
            try simp only [Act.put, List.setIfInBounds_toArray, List.set_cons_zero, List.set_cons_succ]
            have tb : TB v4 (W2.heap.size) := tb4
            have l5 := l50
            have ily : Ilo v4 (W2.heap.size) (.slice A2 n2 c2) res := hres.fresh hfr (by have := tb3.lt; exact this)
            have ey : Ext W2 v4 := e4
            clear hres hfr
            generalize v4 = Y at *
            have FRH := Lib.hid ily
            have TBh := Lib.hid tb; have EYh := Lib.hid ey
            obtain ⟨⟨_, _, _, r0, r1, r2⟩, rf⟩ := tb.facts
            have lt5 := tb.lt
            clear tb ey ily
            refine wpAnyH_ready (rs := [9]) (by kernel_rfl) (by simp) ?_
            refine AllReadyH.cons rfl (fun K hK => ?_) AllReadyH.nil
            go_simp
            refine hK.out _ _ (((EYh.out.sc (by omega)).sc (by omega)).sc (by omega)) (fun _ => ?_)
            clear hK K
            try simp only [Act.put, List.setIfInBounds_toArray, List.set_cons_zero, List.set_cons_succ]
            refine wpAnyH_done (by kernel_rfl) ?_ _
            refine cut_normal ?_
            go_wp2_with fail
            refine NoPanic.normal ?_
            go_wp2_with fail
            go_meet
            exact ⟨_, A2, n2, c2, rfl, rfl, TBh.out.put _ _ _, FRH.out.set.set.set.il, by simp [World.setCell] <;> omega, ((EYh.out.sc (by omega)).sc (by omega)).sc (by omega)⟩
  case rest =>
    obtain ⟨g5, A1, n1, c1, rfl, rfl, z5, il5, l5, e0⟩ := hcut
    have hn1 : n1 ≤ 1000 := by have := il5.len; have := ansL_len w h (l.take 70) m; rw [← HXY.out.2.2.2] at this; omega
    have Z5 := Lib.hid z5; have IL5 := Lib.hid il5; clear z5 il5
    have WC : Hid (Ext W wc) := Lib.hid (BB.out.trans e0)
    go_wp2_with fail
    cases hv : vst w h l
    · have hok : okA w h (l.take 70) m = false := by unfold okA; rw [vst_take, hv]; rfl
      obtain ⟨hx, hy, her, hres⟩ := HXY.out
      unfold ansW at hx hy; unfold ansE at her; unfold ansL at hres
      simp only [hok, Bool.false_eq_true, if_false] at hx hy her hres
      clear HXY hok
      subst hx hy her hres
      have HV := Lib.hid hv; have HV70 := Lib.hid ((vst_take _ _ l).trans hv); clear hv
      refine wp_region_noPanic ?_
      refine wp_region_held_drew (S := fun X => Ext wc X) (by kernel_rfl) (Ext.drw (Ext.refl _)) (fun _ => ?_)
      refine take_at 0 (some 15) (.agg #[.int .i64 w, .int .i64 h, .slice A n c]) rfl rfl (by kernel_rfl) (by kernel_rfl) (by kernel_rfl) (fun _ _ _ h => h) (Or.inl ⟨by rfl, fun w' hSw => ?_⟩) (Ext.drw (Ext.refl _)) ?_
      · have q0 := keepAt hSw (by have := e0.size; omega) (keepAt e0 (by omega) Q0.out.1)
        have q1 := keepAt hSw (by have := e0.size; omega) (keepAt e0 (by omega) Q0.out.2.1)
        have q2 := keepAt hSw (by have := e0.size; omega) (keepAt e0 (by omega) Q0.out.2.2)
        clear hSw
        go_simp
        all_goals (with_reducible rfl)
      try simp only [Act.put, List.setIfInBounds_toArray, List.set_cons_zero, List.set_cons_succ]
      refine take_at 3 (some 18) (.agg #[.int .i64 w, .int .i64 h, .slice A n c]) rfl rfl (by kernel_rfl) (by kernel_rfl) (by kernel_rfl) (fun _ _ _ h => h) (Or.inl ⟨by rfl, fun w' hSw => ?_⟩) (Ext.drw (Ext.refl _)) ?_
      · have q0 := keepAt hSw (by have := e0.size; omega) (keepAt e0 (by omega) Q0.out.1)
        have q1 := keepAt hSw (by have := e0.size; omega) (keepAt e0 (by omega) Q0.out.2.1)
        have q2 := keepAt hSw (by have := e0.size; omega) (keepAt e0 (by omega) Q0.out.2.2)
        clear hSw
        go_simp
        all_goals (with_reducible rfl)
      try simp only [Act.put, List.setIfInBounds_toArray, List.set_cons_zero, List.set_cons_succ]
      refine wpAnyH_ready (rs := [1]) (by kernel_rfl) (by simp) ?_
      refine AllReadyH.cons rfl (fun K hK => ?_) AllReadyH.nil
      go_simp
      refine (CST.out _ (WC.out.trans (Ext.drw (Ext.refl _)))).mono ?_
      rintro e v1 ⟨A3, n3, c3, rfl, hil3, hb1⟩
      have e1 : Ext wc v1 := (Ext.drw (Ext.refl _)).trans hb1
      try go_wp2_with fail
      refine hK.out _ _ e1 (fun _ => ?_)
      clear hK K
      try simp only [Act.put, List.setIfInBounds_toArray, List.set_cons_zero, List.set_cons_succ]
      refine wpAnyH_ready (rs := [2]) (by kernel_rfl) (by simp) ?_
      refine AllReadyH.cons rfl (fun K hK => ?_) AllReadyH.nil
      go_simp
      refine (validS_is HV70.out _ hil3).mono ?_
      rintro e v2 ⟨rfl, hb2⟩
      have e2 : Ext wc v2 := (e1).trans hb2
      try go_wp2_with fail
      refine hK.out _ _ e2 (fun _ => ?_)
      clear hK K
      try simp only [Act.put, List.setIfInBounds_toArray, List.set_cons_zero, List.set_cons_succ]
      refine wpAnyH_ready (rs := [4]) (by kernel_rfl) (by simp) ?_
      refine AllReadyH.cons rfl (fun K hK => ?_) AllReadyH.nil
      go_simp
      refine (validR_is HV.out _ (HL.out.ext (WC.out.trans e2)).il).mono ?_
      rintro e v4 ⟨rfl, hb4⟩
      have e4 : Ext wc v4 := (e2).trans hb4
      try go_wp2_with fail
      refine hK.out _ _ e4 (fun _ => ?_)
      clear hK K
      try simp only [Act.put, List.setIfInBounds_toArray, List.set_cons_zero, List.set_cons_succ]
      refine take_at 5 (some 20) (.bool false) rfl rfl (by kernel_rfl) (by kernel_rfl) (by kernel_rfl) (fun _ _ _ h => h) (Or.inl ⟨by rfl, fun w' hSw => ?_⟩) (e4) ?_
      · skip
        clear hSw
        go_simp
        all_goals (with_reducible rfl)
      try simp only [Act.put, List.setIfInBounds_toArray, List.set_cons_zero, List.set_cons_succ]
      refine take_at 6 (some 21) (.bool false) rfl rfl (by kernel_rfl) (by kernel_rfl) (by kernel_rfl) (fun _ _ _ h => h) (Or.inl ⟨by rfl, fun w' hSw => ?_⟩) (e4) ?_
      · skip
        clear hSw
        go_simp
        all_goals (with_reducible rfl)
      try simp only [Act.put, List.setIfInBounds_toArray, List.set_cons_zero, List.set_cons_succ]
      refine wpAnyH_ready (rs := [7]) (by kernel_rfl) (by simp) ?_
      refine AllReadyH.cons rfl (fun K hK => ?_) AllReadyH.nil
      go_simp
      refine (awake_any _).mono ?_
      rintro e v7 ⟨rfl, hb7⟩
      have e7 : Ext wc v7 := (e4).trans hb7
      try go_wp2_with fail
      refine hK.out _ _ e7 (fun _ => ?_)
      clear hK K
      try simp only [Act.put, List.setIfInBounds_toArray, List.set_cons_zero, List.set_cons_succ]
      refine take_at 8 (some 23) (.bool false) rfl rfl (by kernel_rfl) (by kernel_rfl) (by kernel_rfl) (fun _ _ _ h => h) (Or.inl ⟨by rfl, fun w' hSw => ?_⟩) (e7) ?_
      · skip
        clear hSw
        go_simp
        all_goals (with_reducible rfl)
      try simp only [Act.put, List.setIfInBounds_toArray, List.set_cons_zero, List.set_cons_succ]
      refine take_at 9 (some 24) (.bool false) rfl rfl (by kernel_rfl) (by kernel_rfl) (by kernel_rfl) (fun _ _ _ h => h) (Or.inl ⟨by rfl, fun w' hSw => ?_⟩) (e7) ?_
      · skip
        clear hSw
        go_simp
        all_goals (with_reducible rfl)
      try simp only [Act.put, List.setIfInBounds_toArray, List.set_cons_zero, List.set_cons_succ]
      refine wpAnyH_done (by kernel_rfl) ?_ _
      refine NoPanic.normal ?_
      have E7 : Hid (Ext wc v7) := Lib.hid e7
      have EW7 : Hid (Ext W2 v7) := Lib.hid (e0.trans e7)
      have s0 := keepAt EW7.out (by omega) Q0.out.1; have s1 := keepAt EW7.out (by omega) Q0.out.2.1; have s2 := keepAt EW7.out (by omega) Q0.out.2.2
      have m0 := keepAt EW7.out (by omega) Q1.out.1; have m1 := keepAt EW7.out (by omega) Q1.out.2.1; have m2 := keepAt EW7.out (by omega) Q1.out.2.2.1; have m3 := keepAt EW7.out (by omega) Q1.out.2.2.2
      have p0 := keepAt e7 l5 Z5.out.1; have p1 := keepAt e7 l5 Z5.out.2.1; have p2 := keepAt e7 l5 Z5.out.2.2
      clear hil3 e1 e2 e4 e7 hb1 hb2 hb4 hb7
      go_wp2_with fail
      refine (validR_is HV.out _ (HL.out.ext (BB.out.trans EW7.out)).il).mono ?_
      rintro e u1 ⟨rfl, hb⟩
      have E8 := Lib.hid (E7.out.trans hb); have EW8 := Lib.hid (EW7.out.trans hb); clear hb E7 EW7 s0 s1 s2 m0 m1 m2 m3 p0 p1 p2
      have s0 := keepAt EW8.out (by omega) Q0.out.1; have s1 := keepAt EW8.out (by omega) Q0.out.2.1; have s2 := keepAt EW8.out (by omega) Q0.out.2.2
      have m0 := keepAt EW8.out (by omega) Q1.out.1; have m1 := keepAt EW8.out (by omega) Q1.out.2.1; have m2 := keepAt EW8.out (by omega) Q1.out.2.2.1; have m3 := keepAt EW8.out (by omega) Q1.out.2.2.2
      have p0 := keepAt E8.out l5 Z5.out.1; have p1 := keepAt E8.out l5 Z5.out.2.1; have p2 := keepAt E8.out l5 Z5.out.2.2
      go_wp2_with fail
      refine (own_any 0 0 A1 n1 c1 _).mono ?_
      rintro e u3 ⟨rfl, hb⟩
      have E10 := Lib.hid (E8.out.trans hb); clear hb E8 p0 p1 p2
      go_wp2_with fail
      refine (same_eq 0 0 A1 none n1 c1 0 0 [] [] _ (IL5.out.below E10.out) (Il.nil_ _) (by omega) (by omega)).mono ?_
      rintro e u4 ⟨rfl, hb⟩
      have E11 := Lib.hid (WC.out.trans (E10.out.trans hb)); clear hb E10
      have ht : decide (([] : List Int) = []) = true := by decide
      rw [ht]
      clear ht
      go_wp2
      go_ret
      exact ⟨rfl, E11.out⟩
    · cases hm : has w h m
      · have hok : okA w h (l.take 70) m = false := by unfold okA; rw [vst_take, hv, hm]; rfl
        obtain ⟨hx, hy, her, hres⟩ := HXY.out
        unfold ansW at hx hy; unfold ansE at her; unfold ansL at hres
        simp only [hok, Bool.false_eq_true, if_false] at hx hy her hres
        clear HXY hok
        subst hx hy her hres
        have HV := Lib.hid hv; have HV70 := Lib.hid ((vst_take _ _ l).trans hv); have HM := Lib.hid hm; clear hv hm
        refine wp_region_noPanic ?_
        refine wp_region_held_drew (S := fun X => Ext wc X) (by kernel_rfl) (Ext.drw (Ext.refl _)) (fun _ => ?_)
        refine take_at 0 (some 15) (.agg #[.int .i64 w, .int .i64 h, .slice A n c]) rfl rfl (by kernel_rfl) (by kernel_rfl) (by kernel_rfl) (fun _ _ _ h => h) (Or.inl ⟨by rfl, fun w' hSw => ?_⟩) (Ext.drw (Ext.refl _)) ?_
        · have q0 := keepAt hSw (by have := e0.size; omega) (keepAt e0 (by omega) Q0.out.1)
          have q1 := keepAt hSw (by have := e0.size; omega) (keepAt e0 (by omega) Q0.out.2.1)
          have q2 := keepAt hSw (by have := e0.size; omega) (keepAt e0 (by omega) Q0.out.2.2)
          clear hSw
          go_simp
          all_goals (with_reducible rfl)
        try simp only [Act.put, List.setIfInBounds_toArray, List.set_cons_zero, List.set_cons_succ]
        refine take_at 3 (some 18) (.agg #[.int .i64 w, .int .i64 h, .slice A n c]) rfl rfl (by kernel_rfl) (by kernel_rfl) (by kernel_rfl) (fun _ _ _ h => h) (Or.inl ⟨by rfl, fun w' hSw => ?_⟩) (Ext.drw (Ext.refl _)) ?_
        · have q0 := keepAt hSw (by have := e0.size; omega) (keepAt e0 (by omega) Q0.out.1)
          have q1 := keepAt hSw (by have := e0.size; omega) (keepAt e0 (by omega) Q0.out.2.1)
          have q2 := keepAt hSw (by have := e0.size; omega) (keepAt e0 (by omega) Q0.out.2.2)
          clear hSw
          go_simp
          all_goals (with_reducible rfl)
        try simp only [Act.put, List.setIfInBounds_toArray, List.set_cons_zero, List.set_cons_succ]
        refine wpAnyH_ready (rs := [1]) (by kernel_rfl) (by simp) ?_
        refine AllReadyH.cons rfl (fun K hK => ?_) AllReadyH.nil
        go_simp
        refine (CST.out _ (WC.out.trans (Ext.drw (Ext.refl _)))).mono ?_
        rintro e v1 ⟨A3, n3, c3, rfl, hil3, hb1⟩
        have e1 : Ext wc v1 := (Ext.drw (Ext.refl _)).trans hb1
        try go_wp2_with fail
        refine hK.out _ _ e1 (fun _ => ?_)
        clear hK K
        try simp only [Act.put, List.setIfInBounds_toArray, List.set_cons_zero, List.set_cons_succ]
        refine wpAnyH_ready (rs := [2]) (by kernel_rfl) (by simp) ?_
        refine AllReadyH.cons rfl (fun K hK => ?_) AllReadyH.nil
        go_simp
        refine (validS_is HV70.out _ hil3).mono ?_
        rintro e v2 ⟨rfl, hb2⟩
        have e2 : Ext wc v2 := (e1).trans hb2
        try go_wp2_with fail
        refine hK.out _ _ e2 (fun _ => ?_)
        clear hK K
        try simp only [Act.put, List.setIfInBounds_toArray, List.set_cons_zero, List.set_cons_succ]
        refine wpAnyH_ready (rs := [4]) (by kernel_rfl) (by simp) ?_
        refine AllReadyH.cons rfl (fun K hK => ?_) AllReadyH.nil
        go_simp
        refine (validR_is HV.out _ (HL.out.ext (WC.out.trans e2)).il).mono ?_
        rintro e v4 ⟨rfl, hb4⟩
        have e4 : Ext wc v4 := (e2).trans hb4
        try go_wp2_with fail
        refine hK.out _ _ e4 (fun _ => ?_)
        clear hK K
        try simp only [Act.put, List.setIfInBounds_toArray, List.set_cons_zero, List.set_cons_succ]
        refine take_at 5 (some 20) (.bool false) rfl rfl (by kernel_rfl) (by kernel_rfl) (by kernel_rfl) (fun _ _ _ h => h) (Or.inl ⟨by rfl, fun w' hSw => ?_⟩) (e4) ?_
        · skip
          clear hSw
          go_simp
          all_goals (with_reducible rfl)
        try simp only [Act.put, List.setIfInBounds_toArray, List.set_cons_zero, List.set_cons_succ]
        refine take_at 6 (some 21) (.bool false) rfl rfl (by kernel_rfl) (by kernel_rfl) (by kernel_rfl) (fun _ _ _ h => h) (Or.inl ⟨by rfl, fun w' hSw => ?_⟩) (e4) ?_
        · skip
          clear hSw
          go_simp
          all_goals (with_reducible rfl)
        try simp only [Act.put, List.setIfInBounds_toArray, List.set_cons_zero, List.set_cons_succ]
        refine wpAnyH_ready (rs := [7]) (by kernel_rfl) (by simp) ?_
        refine AllReadyH.cons rfl (fun K hK => ?_) AllReadyH.nil
        go_simp
        refine (awake_any _).mono ?_
        rintro e v7 ⟨rfl, hb7⟩
        have e7 : Ext wc v7 := (e4).trans hb7
        try go_wp2_with fail
        refine hK.out _ _ e7 (fun _ => ?_)
        clear hK K
        try simp only [Act.put, List.setIfInBounds_toArray, List.set_cons_zero, List.set_cons_succ]
        refine take_at 8 (some 23) (.bool false) rfl rfl (by kernel_rfl) (by kernel_rfl) (by kernel_rfl) (fun _ _ _ h => h) (Or.inl ⟨by rfl, fun w' hSw => ?_⟩) (e7) ?_
        · skip
          clear hSw
          go_simp
          all_goals (with_reducible rfl)
        try simp only [Act.put, List.setIfInBounds_toArray, List.set_cons_zero, List.set_cons_succ]
        refine take_at 9 (some 24) (.bool false) rfl rfl (by kernel_rfl) (by kernel_rfl) (by kernel_rfl) (fun _ _ _ h => h) (Or.inl ⟨by rfl, fun w' hSw => ?_⟩) (e7) ?_
        · skip
          clear hSw
          go_simp
          all_goals (with_reducible rfl)
        try simp only [Act.put, List.setIfInBounds_toArray, List.set_cons_zero, List.set_cons_succ]
        refine wpAnyH_done (by kernel_rfl) ?_ _
        refine NoPanic.normal ?_
        have E7 : Hid (Ext wc v7) := Lib.hid e7
        have EW7 : Hid (Ext W2 v7) := Lib.hid (e0.trans e7)
        have s0 := keepAt EW7.out (by omega) Q0.out.1; have s1 := keepAt EW7.out (by omega) Q0.out.2.1; have s2 := keepAt EW7.out (by omega) Q0.out.2.2
        have m0 := keepAt EW7.out (by omega) Q1.out.1; have m1 := keepAt EW7.out (by omega) Q1.out.2.1; have m2 := keepAt EW7.out (by omega) Q1.out.2.2.1; have m3 := keepAt EW7.out (by omega) Q1.out.2.2.2
        have p0 := keepAt e7 l5 Z5.out.1; have p1 := keepAt e7 l5 Z5.out.2.1; have p2 := keepAt e7 l5 Z5.out.2.2
        clear hil3 e1 e2 e4 e7 hb1 hb2 hb4 hb7
        go_wp2_with fail
        refine (validR_is HV.out _ (HL.out.ext (BB.out.trans EW7.out)).il).mono ?_
        rintro e u1 ⟨rfl, hb⟩
        have E8 := Lib.hid (E7.out.trans hb); have EW8 := Lib.hid (EW7.out.trans hb); clear hb E7 EW7 s0 s1 s2 m0 m1 m2 m3 p0 p1 p2
        have s0 := keepAt EW8.out (by omega) Q0.out.1; have s1 := keepAt EW8.out (by omega) Q0.out.2.1; have s2 := keepAt EW8.out (by omega) Q0.out.2.2
        have m0 := keepAt EW8.out (by omega) Q1.out.1; have m1 := keepAt EW8.out (by omega) Q1.out.2.1; have m2 := keepAt EW8.out (by omega) Q1.out.2.2.1; have m3 := keepAt EW8.out (by omega) Q1.out.2.2.2
        have p0 := keepAt E8.out l5 Z5.out.1; have p1 := keepAt E8.out l5 Z5.out.2.1; have p2 := keepAt E8.out l5 Z5.out.2.2
        go_wp2_with fail
        refine (fits_is HM.out _).mono ?_
        rintro e u2 ⟨rfl, hb⟩
        have E9 := Lib.hid (E8.out.trans (Ext.of hb)); have EW9 := Lib.hid (EW8.out.trans (Ext.of hb)); clear hb E8 EW8 s0 s1 s2 m0 m1 m2 m3 p0 p1 p2
        have p0 := keepAt E9.out l5 Z5.out.1; have p1 := keepAt E9.out l5 Z5.out.2.1; have p2 := keepAt E9.out l5 Z5.out.2.2
        go_wp2_with fail
        refine (own_any 0 0 A1 n1 c1 _).mono ?_
        rintro e u3 ⟨rfl, hb⟩
        have E10 := Lib.hid (E9.out.trans hb); clear hb E9 p0 p1 p2
        go_wp2_with fail
        refine (same_eq 0 0 A1 none n1 c1 0 0 [] [] _ (IL5.out.below E10.out) (Il.nil_ _) (by omega) (by omega)).mono ?_
        rintro e u4 ⟨rfl, hb⟩
        have E11 := Lib.hid (WC.out.trans (E10.out.trans hb)); clear hb E10
        have ht : decide (([] : List Int) = []) = true := by decide
        rw [ht]
        clear ht
        go_wp2
        go_ret
        exact ⟨rfl, E11.out⟩
      · have hok : okA w h (l.take 70) m = true := by unfold okA; rw [vst_take, hv, hm]; rfl
        obtain ⟨hx, hy, her, hres⟩ := HXY.out
        unfold ansW at hx hy; unfold ansE at her
        simp only [hok, if_true] at hx hy her
        rw [vst_short hv] at hres
        clear HXY hok
        have hx2 := hx.symm; have hy2 := hy.symm
        clear hx hy
        subst hx2 hy2 her
        have HV := Lib.hid hv; have HV70 := Lib.hid ((vst_take _ _ l).trans hv); have HM := Lib.hid hm; have HRES := Lib.hid hres; clear hv hm hres
        refine wp_region_noPanic ?_
        refine wp_region_held_drew (S := fun X => Ext wc X) (by kernel_rfl) (Ext.drw (Ext.refl _)) (fun _ => ?_)
        refine take_at 0 (some 15) (.agg #[.int .i64 w, .int .i64 h, .slice A n c]) rfl rfl (by kernel_rfl) (by kernel_rfl) (by kernel_rfl) (fun _ _ _ h => h) (Or.inl ⟨by rfl, fun w' hSw => ?_⟩) (Ext.drw (Ext.refl _)) ?_
        · have q0 := keepAt hSw (by have := e0.size; omega) (keepAt e0 (by omega) Q0.out.1)
          have q1 := keepAt hSw (by have := e0.size; omega) (keepAt e0 (by omega) Q0.out.2.1)
          have q2 := keepAt hSw (by have := e0.size; omega) (keepAt e0 (by omega) Q0.out.2.2)
          clear hSw
          go_simp
          all_goals (with_reducible rfl)
        try simp only [Act.put, List.setIfInBounds_toArray, List.set_cons_zero, List.set_cons_succ]
        refine take_at 3 (some 18) (.agg #[.int .i64 w, .int .i64 h, .slice A n c]) rfl rfl (by kernel_rfl) (by kernel_rfl) (by kernel_rfl) (fun _ _ _ h => h) (Or.inl ⟨by rfl, fun w' hSw => ?_⟩) (Ext.drw (Ext.refl _)) ?_
        · have q0 := keepAt hSw (by have := e0.size; omega) (keepAt e0 (by omega) Q0.out.1)
          have q1 := keepAt hSw (by have := e0.size; omega) (keepAt e0 (by omega) Q0.out.2.1)
          have q2 := keepAt hSw (by have := e0.size; omega) (keepAt e0 (by omega) Q0.out.2.2)
          clear hSw
          go_simp
          all_goals (with_reducible rfl)
        try simp only [Act.put, List.setIfInBounds_toArray, List.set_cons_zero, List.set_cons_succ]
        refine wpAnyH_ready (rs := [1]) (by kernel_rfl) (by simp) ?_
        refine AllReadyH.cons rfl (fun K hK => ?_) AllReadyH.nil
        go_simp
        refine (CST.out _ (WC.out.trans (Ext.drw (Ext.refl _)))).mono ?_
        rintro e v1 ⟨A3, n3, c3, rfl, hil3, hb1⟩
        have e1 : Ext wc v1 := (Ext.drw (Ext.refl _)).trans hb1
        try go_wp2_with fail
        refine hK.out _ _ e1 (fun _ => ?_)
        clear hK K
        try simp only [Act.put, List.setIfInBounds_toArray, List.set_cons_zero, List.set_cons_succ]
        refine wpAnyH_ready (rs := [2]) (by kernel_rfl) (by simp) ?_
        refine AllReadyH.cons rfl (fun K hK => ?_) AllReadyH.nil
        go_simp
        refine (validS_is HV70.out _ hil3).mono ?_
        rintro e v2 ⟨rfl, hb2⟩
        have e2 : Ext wc v2 := (e1).trans hb2
        try go_wp2_with fail
        refine hK.out _ _ e2 (fun _ => ?_)
        clear hK K
        try simp only [Act.put, List.setIfInBounds_toArray, List.set_cons_zero, List.set_cons_succ]
        refine wpAnyH_ready (rs := [4]) (by kernel_rfl) (by simp) ?_
        refine AllReadyH.cons rfl (fun K hK => ?_) AllReadyH.nil
        go_simp
        refine (validR_is HV.out _ (HL.out.ext (WC.out.trans e2)).il).mono ?_
        rintro e v4 ⟨rfl, hb4⟩
        have e4 : Ext wc v4 := (e2).trans hb4
        try go_wp2_with fail
        refine hK.out _ _ e4 (fun _ => ?_)
        clear hK K
        try simp only [Act.put, List.setIfInBounds_toArray, List.set_cons_zero, List.set_cons_succ]
        refine take_at 5 (some 20) (.bool false) rfl rfl (by kernel_rfl) (by kernel_rfl) (by kernel_rfl) (fun _ _ _ h => h) (Or.inl ⟨by rfl, fun w' hSw => ?_⟩) (e4) ?_
        · skip
          clear hSw
          go_simp
          all_goals (with_reducible rfl)
        try simp only [Act.put, List.setIfInBounds_toArray, List.set_cons_zero, List.set_cons_succ]
        refine take_at 6 (some 21) (.bool false) rfl rfl (by kernel_rfl) (by kernel_rfl) (by kernel_rfl) (fun _ _ _ h => h) (Or.inl ⟨by rfl, fun w' hSw => ?_⟩) (e4) ?_
        · skip
          clear hSw
          go_simp
          all_goals (with_reducible rfl)
        try simp only [Act.put, List.setIfInBounds_toArray, List.set_cons_zero, List.set_cons_succ]
        refine wpAnyH_ready (rs := [7]) (by kernel_rfl) (by simp) ?_
        refine AllReadyH.cons rfl (fun K hK => ?_) AllReadyH.nil
        go_simp
        refine (awake_any _).mono ?_
        rintro e v7 ⟨rfl, hb7⟩
        have e7 : Ext wc v7 := (e4).trans hb7
        try go_wp2_with fail
        refine hK.out _ _ e7 (fun _ => ?_)
        clear hK K
        try simp only [Act.put, List.setIfInBounds_toArray, List.set_cons_zero, List.set_cons_succ]
        refine take_at 8 (some 23) (.bool false) rfl rfl (by kernel_rfl) (by kernel_rfl) (by kernel_rfl) (fun _ _ _ h => h) (Or.inl ⟨by rfl, fun w' hSw => ?_⟩) (e7) ?_
        · skip
          clear hSw
          go_simp
          all_goals (with_reducible rfl)
        try simp only [Act.put, List.setIfInBounds_toArray, List.set_cons_zero, List.set_cons_succ]
        refine take_at 9 (some 24) (.bool false) rfl rfl (by kernel_rfl) (by kernel_rfl) (by kernel_rfl) (fun _ _ _ h => h) (Or.inl ⟨by rfl, fun w' hSw => ?_⟩) (e7) ?_
        · skip
          clear hSw
          go_simp
          all_goals (with_reducible rfl)
        try simp only [Act.put, List.setIfInBounds_toArray, List.set_cons_zero, List.set_cons_succ]
        refine wpAnyH_done (by kernel_rfl) ?_ _
        refine NoPanic.normal ?_
        have E7 : Hid (Ext wc v7) := Lib.hid e7
        have EW7 : Hid (Ext W2 v7) := Lib.hid (e0.trans e7)
        have s0 := keepAt EW7.out (by omega) Q0.out.1; have s1 := keepAt EW7.out (by omega) Q0.out.2.1; have s2 := keepAt EW7.out (by omega) Q0.out.2.2
        have m0 := keepAt EW7.out (by omega) Q1.out.1; have m1 := keepAt EW7.out (by omega) Q1.out.2.1; have m2 := keepAt EW7.out (by omega) Q1.out.2.2.1; have m3 := keepAt EW7.out (by omega) Q1.out.2.2.2
        have p0 := keepAt e7 l5 Z5.out.1; have p1 := keepAt e7 l5 Z5.out.2.1; have p2 := keepAt e7 l5 Z5.out.2.2
        clear hil3 e1 e2 e4 e7 hb1 hb2 hb4 hb7
        go_wp2_with fail
        refine (validR_is HV.out _ (HL.out.ext (BB.out.trans EW7.out)).il).mono ?_
        rintro e u1 ⟨rfl, hb⟩
        have E8 := Lib.hid (E7.out.trans hb); have EW8 := Lib.hid (EW7.out.trans hb); clear hb E7 EW7 s0 s1 s2 m0 m1 m2 m3 p0 p1 p2
        have s0 := keepAt EW8.out (by omega) Q0.out.1; have s1 := keepAt EW8.out (by omega) Q0.out.2.1; have s2 := keepAt EW8.out (by omega) Q0.out.2.2
        have m0 := keepAt EW8.out (by omega) Q1.out.1; have m1 := keepAt EW8.out (by omega) Q1.out.2.1; have m2 := keepAt EW8.out (by omega) Q1.out.2.2.1; have m3 := keepAt EW8.out (by omega) Q1.out.2.2.2
        have p0 := keepAt E8.out l5 Z5.out.1; have p1 := keepAt E8.out l5 Z5.out.2.1; have p2 := keepAt E8.out l5 Z5.out.2.2
        go_wp2_with fail
        refine (fits_is HM.out _).mono ?_
        rintro e u2 ⟨rfl, hb⟩
        have E9 := Lib.hid (E8.out.trans (Ext.of hb)); have EW9 := Lib.hid (EW8.out.trans (Ext.of hb)); clear hb E8 EW8 s0 s1 s2 m0 m1 m2 m3 p0 p1 p2
        have p0 := keepAt E9.out l5 Z5.out.1; have p1 := keepAt E9.out l5 Z5.out.2.1; have p2 := keepAt E9.out l5 Z5.out.2.2
        go_wp2_with fail
        have EE : Ext wc u2 := E9.out
        have zz := EE.size
        clear p0 p1 p2
        refine wp_region_noPanic ?_
        refine wp_region_held_drew (S := fun X => Ext u2 X) (by kernel_rfl) (Ext.drw (Ext.refl _)) (fun _ => ?_)
        refine take_at 0 (some 45) (.agg #[.int .i64 w, .int .i64 h, .slice A1 n1 c1]) rfl rfl (by kernel_rfl) (by kernel_rfl) (by kernel_rfl) (fun _ _ _ h => h) (Or.inl ⟨by rfl, fun w' hSw => ?_⟩) (Ext.drw (Ext.refl _)) ?_
        · have q0 := keepAt hSw (by omega) (keepAt EE l5 Z5.out.1)
          have q1 := keepAt hSw (by omega) (keepAt EE l5 Z5.out.2.1)
          have q2 := keepAt hSw (by omega) (keepAt EE l5 Z5.out.2.2)
          clear hSw
          go_simp
          all_goals (with_reducible rfl)
        try simp only [Act.put, List.setIfInBounds_toArray, List.set_cons_zero, List.set_cons_succ]
        refine take_at 2 (some 47) (.agg #[.int .i64 m.dx, .int .i64 m.dy, .int .i64 m.t, .bool m.f]) rfl rfl (by kernel_rfl) (by kernel_rfl) (by kernel_rfl) (fun _ _ _ h => h) (Or.inl ⟨by rfl, fun w' hSw => ?_⟩) (Ext.drw (Ext.refl _)) ?_
        · have q0 := keepAt hSw (by have := EW9.out.size; omega) (keepAt EW9.out (by omega) Q1.out.1)
          have q1 := keepAt hSw (by have := EW9.out.size; omega) (keepAt EW9.out (by omega) Q1.out.2.1)
          have q2 := keepAt hSw (by have := EW9.out.size; omega) (keepAt EW9.out (by omega) Q1.out.2.2.1)
          have q3 := keepAt hSw (by have := EW9.out.size; omega) (keepAt EW9.out (by omega) Q1.out.2.2.2)
          clear hSw
          go_simp
          all_goals (with_reducible rfl)
        try simp only [Act.put, List.setIfInBounds_toArray, List.set_cons_zero, List.set_cons_succ]
        refine take_at 3 (some 48) (.agg #[.int .i64 w, .int .i64 h, .slice A n c]) rfl rfl (by kernel_rfl) (by kernel_rfl) (by kernel_rfl) (fun _ _ _ h => h) (Or.inl ⟨by rfl, fun w' hSw => ?_⟩) (Ext.drw (Ext.refl _)) ?_
        · have q0 := keepAt hSw (by have := EW9.out.size; omega) (keepAt EW9.out (by omega) Q0.out.1)
          have q1 := keepAt hSw (by have := EW9.out.size; omega) (keepAt EW9.out (by omega) Q0.out.2.1)
          have q2 := keepAt hSw (by have := EW9.out.size; omega) (keepAt EW9.out (by omega) Q0.out.2.2)
          clear hSw
          go_simp
          all_goals (with_reducible rfl)
        try simp only [Act.put, List.setIfInBounds_toArray, List.set_cons_zero, List.set_cons_succ]
        refine wpAnyH_ready (rs := [1]) (by kernel_rfl) (by simp) ?_
        refine AllReadyH.cons rfl (fun K hK => ?_) AllReadyH.nil
        go_simp
        refine (own_any w h A1 n1 c1 _).mono ?_
        rintro e v1 ⟨rfl, hb1⟩
        have e1 : Ext u2 v1 := (Ext.drw (Ext.refl _)).trans hb1
        try go_wp2_with fail
        refine hK.out _ _ e1 (fun _ => ?_)
        clear hK K
        try simp only [Act.put, List.setIfInBounds_toArray, List.set_cons_zero, List.set_cons_succ]
        refine wpAnyH_ready (rs := [4]) (by kernel_rfl) (by simp) ?_
        refine AllReadyH.cons rfl (fun K hK => ?_) AllReadyH.nil
        go_simp
        refine (applyR_any w h m A n c l _ HV.out HM.out (HL.out.ext (BB.out.trans (EW9.out.trans e1))).il).mono ?_
        rintro e v4 ⟨A4, rfl, hil4, hb4⟩
        have e4 : Ext u2 v4 := (e1).trans hb4
        try go_wp2_with fail
        refine hK.out _ _ e4 (fun _ => ?_)
        clear hK K
        try simp only [Act.put, List.setIfInBounds_toArray, List.set_cons_zero, List.set_cons_succ]
        have hres2 := HRES.out
        rw [← hres2] at hil4
        clear hres2
        have hn4 := hil4.len
        have hn4b : n ≤ 1000 := by rw [hn4, HRES.out]; exact ansL_len _ _ _ _
        have HIL4 := Lib.hid hil4
        clear hn4 hil4
        refine wpAnyH_ready (rs := [5]) (by kernel_rfl) (by simp) ?_
        refine AllReadyH.cons rfl (fun K hK => ?_) AllReadyH.nil
        go_simp
        refine (same_eq w h A1 A4 n1 c1 n n res res _ (IL5.out.below (EE.trans e4)) HIL4.out hn1 hn4b).mono ?_
        rintro e v5 ⟨rfl, hb5⟩
        have e5 : Ext u2 v5 := (e4).trans hb5
        try go_wp2_with fail
        refine hK.out _ _ e5 (fun _ => ?_)
        clear hK K
        try simp only [Act.put, List.setIfInBounds_toArray, List.set_cons_zero, List.set_cons_succ]
        have ht : decide (res = res) = true := by simp
        try rw [ht]
        clear ht
        refine take_at 6 (some 51) (.bool true) rfl rfl (by kernel_rfl) (by kernel_rfl) (by kernel_rfl) (fun _ _ _ h => h) (Or.inl ⟨by rfl, fun w' hSw => ?_⟩) (e5) ?_
        · skip
          clear hSw
          go_simp
          all_goals (with_reducible rfl)
        try simp only [Act.put, List.setIfInBounds_toArray, List.set_cons_zero, List.set_cons_succ]
        refine take_at 7 (some 52) (.int .i64 0) rfl rfl (by kernel_rfl) (by kernel_rfl) (by kernel_rfl) (fun _ _ _ h => h) (Or.inl ⟨by rfl, fun w' hSw => ?_⟩) (e5) ?_
        · skip
          clear hSw
          go_simp
          all_goals (with_reducible rfl)
        try simp only [Act.put, List.setIfInBounds_toArray, List.set_cons_zero, List.set_cons_succ]
        refine take_at 8 (some 53) (.bool true) rfl rfl (by kernel_rfl) (by kernel_rfl) (by kernel_rfl) (fun _ _ _ h => h) (Or.inl ⟨by rfl, fun w' hSw => ?_⟩) (e5) ?_
        · skip
          clear hSw
          go_simp
          all_goals (with_reducible rfl)
        try simp only [Act.put, List.setIfInBounds_toArray, List.set_cons_zero, List.set_cons_succ]
        refine take_at 9 (some 54) (.bool true) rfl rfl (by kernel_rfl) (by kernel_rfl) (by kernel_rfl) (fun _ _ _ h => h) (Or.inl ⟨by rfl, fun w' hSw => ?_⟩) (e5) ?_
        · skip
          clear hSw
          go_simp
          all_goals (with_reducible rfl)
        try simp only [Act.put, List.setIfInBounds_toArray, List.set_cons_zero, List.set_cons_succ]
        refine take_at 10 (some 4) (.bool true) rfl rfl (by kernel_rfl) (by kernel_rfl) (by kernel_rfl) (fun _ _ _ h => h) (Or.inl ⟨by rfl, fun w' hSw => ?_⟩) (e5) ?_
        · skip
          clear hSw
          go_simp
          all_goals (with_reducible rfl)
        try simp only [Act.put, List.setIfInBounds_toArray, List.set_cons_zero, List.set_cons_succ]
        refine wpAnyH_done (by kernel_rfl) ?_ _
        refine NoPanic.normal ?_
        have EF := Lib.hid (WC.out.trans (EE.trans e5))
        go_wp2
        go_ret
        exact ⟨rfl, EF.out⟩
end Go.Proofs.Ytgjanbgehbpciaa
