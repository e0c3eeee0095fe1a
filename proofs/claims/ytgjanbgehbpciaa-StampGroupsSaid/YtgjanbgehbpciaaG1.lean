/- Walks: the law StampGroups. -/
import Derived.Test.YtgjanbgehbpciaaV14
import Derived.Test.YtgjanbgehbpciaaV15
import Derived.Test.YtgjanbgehbpciaaMw
import Derived.Test.YtgjanbgehbpciaaPool
import Derived.Test.YtgjanbgehbpciaaV18
namespace Go.Proofs.Ytgjanbgehbpciaa
open Go.RowKit

/-- behind the second statement -/
def GCut (w4 : World) (w h : Int) (a b d : Mv) (s11 s12 s13 s14 s15 : Value) (wx : World) : Prop :=
  ∃ g13 g14 g15, s11 = .int .i64 w ∧ s12 = .int .i64 h ∧ s13 = .pointer (some ⟨g13, 0, none⟩) ∧ s14 = .pointer (some ⟨g14, 0, none⟩) ∧ s15 = .pointer (some ⟨g15, 0, none⟩) ∧
    Q4 wx g13 (.int .i64 a.dx) (.int .i64 a.dy) (.int .i64 a.t) (.bool a.f) ∧ Q4 wx g14 (.int .i64 b.dx) (.int .i64 b.dy) (.int .i64 b.t) (.bool b.f) ∧ Q4 wx g15 (.int .i64 d.dx) (.int .i64 d.dy) (.int .i64 d.t) (.bool d.f) ∧
    g13 < wx.heap.size ∧ g14 < wx.heap.size ∧ g15 < wx.heap.size ∧ Ext w4 wx

theorem Il.ext {X Y : World} {v : Value} {l : List Int} (h : Il X v l) (e : Ext X Y) : Il Y v l := h.below e
theorem Il.apart {X : World} {A : Option Addr} {n c g : Nat} {l : List Int} (h : Il X (.slice A n c) l) (hs : ∀ a, A = some a → a.block ≠ g) : Ilo X g (.slice A n c) l := by
  obtain ⟨A', c', e, h1, h2, h4⟩ := h
  injection e with e1 e2 e3
  subst e1 e3 e2
  refine ⟨A, c, rfl, h1, h2, fun hp => ?_⟩
  obtain ⟨b, off, rfl, hb, hc⟩ := h4 hp
  exact ⟨b, off, rfl, hs _ rfl, hb, hc⟩
theorem Il.new {X V : World} {A : Option Addr} {n c : Nat} {l : List Int} (h : Il V (.slice A n c) l) (hf : Fr X.heap.size (.slice A n c)) (hn : 0 < l.length) : ∀ a, A = some a → X.heap.size ≤ a.block ∧ a.block < V.heap.size := by
  rintro a rfl
  have h1 := hf _ _ _ rfl
  obtain ⟨A', c', e, _, _, h4⟩ := h
  injection e with e1 e2 e3
  obtain ⟨b, off, e4, hb, _⟩ := h4 hn
  rw [← e1] at e4
  injection e4 with e5
  subst e5
  exact ⟨h1, hb⟩
theorem TB.at3 {X : World} {g : Nat} (h : TB X g) (a b c : Value) : Q3 (((X.setCell ⟨g, 0, none⟩ a).setCell ⟨g, 1, none⟩ b).setCell ⟨g, 2, none⟩ c) g a b c := by
  obtain ⟨a', b', c', t, h⟩ := h
  have e : (((X.setCell ⟨g, 0, none⟩ a).setCell ⟨g, 1, none⟩ b).setCell ⟨g, 2, none⟩ c).heap[g]? = some (.cells #[a, b, c] t (0, 0)) := by simp [World.setCell, Array.getElem?_modify, h]
  exact ⟨cell_of_row _ g 0 _ t (0, 0) e, cell_of_row _ g 1 _ t (0, 0) e, cell_of_row _ g 2 _ t (0, 0) e⟩
/-- Apply, of a right stamp and a right move -/
theorem apply_in (w h : Int) (m : Mv) (A : Option Addr) (n c : Nat) (l : List Int) (W : World) (hl : Il W (.slice A n c) l) (hv : vst w h l = true) (hm : has w h m = true) :
    Calls Try.prog 13 #[.agg #[.int .i64 m.dx, .int .i64 m.dy, .int .i64 m.t, .bool m.f], .agg #[.int .i64 w, .int .i64 h, .slice A n c]] W fun e W' => ∃ A', e = .returned (.tuple #[.agg #[.int .i64 w, .int .i64 h, .slice A' n n], .int .i64 0]) ∧ Il W' (.slice A' n n) (apl w.toNat h.toNat m l n) ∧ Fr W.heap.size (.slice A' n n) ∧ Ext W W' := by
  have hs := (vst_len hv).1
  rw [okSize_iff] at hs
  obtain ⟨w', rfl⟩ : ∃ w' : Nat, w = w' := ⟨w.toNat, by omega⟩
  obtain ⟨h', rfl⟩ : ∃ h' : Nat, h = h' := ⟨h.toNat, by omega⟩
  exact apply_ok w' h' m A n c l W hl hv hm
theorem apl_len' {w h : Int} {l : List Int} (m : Mv) (hv : vst w h l = true) {n : Nat} (hn : n = l.length) (l' : List Int) : (apl w.toNat h.toNat m l' n).length = n := by
  obtain ⟨hs, hl, -⟩ := vst_len hv
  rw [okSize_iff] at hs
  rw [apl_len]
  have e : ((w.toNat * h.toNat : Nat) : Int) = w * h := by
    rw [Int.natCast_mul, Int.toNat_of_nonneg (by omega), Int.toNat_of_nonneg (by omega)]
  omega
theorem groups_apl {w h : Int} {l : List Int} {a b : Mv} {n : Nat} (hv : vst w h l = true) (ha : has w h a = true) (hb : has w h b = true) (hn : n = l.length) :
    apl w.toNat h.toNat (aft w h a b) l n = apl w.toNat h.toNat a (apl w.toNat h.toNat b l n) n := by
  obtain ⟨hs, hl, -⟩ := vst_len hv
  have hs' := okSize_iff.1 hs
  obtain ⟨w', rfl⟩ : ∃ w' : Nat, w = w' := ⟨w.toNat, by omega⟩
  obtain ⟨h', rfl⟩ : ∃ h' : Nat, h = h' := ⟨h.toNat, by omega⟩
  have e : n = w' * h' := by
    have : ((w' * h' : Nat) : Int) = (w' : Int) * h' := Int.natCast_mul _ _
    omega
  subst e
  simp only [Int.toNat_natCast]
  exact apl_aft hs ha hb l
theorem apl_col {w h : Nat} {m : Mv} {cs : List Int} (hc : cs.all isCol = true) : ∀ k, (apl w h m cs k).all isCol = true := by
  have h0 : ∀ i, isCol (cs.getD i 0) = true := fun i => by
    rcases Nat.lt_or_ge i cs.length with hi | hi
    · rw [List.getD_eq_getElem?_getD, List.getElem?_eq_getElem hi]
      exact List.all_eq_true.1 hc _ (List.getElem_mem _)
    · rw [List.getD_eq_getElem?_getD, List.getElem?_eq_none hi]; rfl
  intro k
  induction k with
  | zero =>
    rw [List.all_eq_true]
    intro x hx
    have hx2 : x ∈ List.replicate (w * h) (0 : Int) := by simpa [apl] using hx
    obtain ⟨-, rfl⟩ := List.mem_replicate.1 hx2
    rfl
  | succ k ih =>
    rw [apl_succ, List.all_eq_true]
    intro x hx
    rcases List.mem_or_eq_of_mem_set hx with h1 | h1
    · exact List.all_eq_true.1 ih x h1
    · rw [h1]; exact h0 k
theorem apl_vst {w h : Int} {l : List Int} {m : Mv} {n : Nat} (hv : vst w h l = true) (hn : n = l.length) : vst w h (apl w.toNat h.toNat m l n) = true := by
  have hl := apl_len' m hv hn l
  obtain ⟨hs, hlen, hc⟩ := vst_len hv
  unfold vst
  rw [hs, hl, apl_col hc]
  have : decide ((n : Int) = w * h) = true := decide_eq_true (by rw [hn]; exact hlen)
  rw [this]; rfl

/-- behind a statement that makes a stamp -/
def TCut (X : World) (w h : Int) (L : List Int) (n : Nat) (sp se : Value) (wx : World) : Prop :=
  ∃ g A c, sp = .pointer (some ⟨g, 0, none⟩) ∧ se = .int .i64 0 ∧ Q3 wx g (.int .i64 w) (.int .i64 h) (.slice A n c) ∧ Il wx (.slice A n c) L ∧ g < wx.heap.size ∧ Ext X wx

/-- behind a statement that makes a move -/
def SCut (X : World) (m : Mv) (sp se : Value) (wx : World) : Prop :=
  ∃ g, sp = .pointer (some ⟨g, 0, none⟩) ∧ se = .int .i64 0 ∧ Q4 wx g (.int .i64 m.dx) (.int .i64 m.dy) (.int .i64 m.t) (.bool m.f) ∧ g < wx.heap.size ∧ Ext X wx

set_option maxHeartbeats 8000000 in
set_option maxRecDepth 100000 in
theorem groups_ok (w h : Int) (A : Option Addr) (n c : Nat) (l : List Int) (a b d : Mv) (W : World) (hl : Ins W A n c l) (hv : vst w h l = true) (ha : has w h a = true) (hb : has w h b = true) (hd : has w h d = true) :
    Calls Try.prog 6 #[.agg #[.int .i64 w, .int .i64 h, .slice A n c], .agg #[.int .i64 a.dx, .int .i64 a.dy, .int .i64 a.t, .bool a.f], .agg #[.int .i64 b.dx, .int .i64 b.dy, .int .i64 b.t, .bool b.f], .agg #[.int .i64 d.dx, .int .i64 d.dy, .int .i64 d.t, .bool d.f]] W fun e W' => e = .returned (.bool true) ∧ Ext W W' := by
  have hn0 := hl.1
  have hpos : 0 < n := by
    obtain ⟨h1, h2, -⟩ := vst_len hv
    have := area_in h1
    omega
  have hn64 : n ≤ 64 := by
    obtain ⟨h1, h2, -⟩ := vst_len hv
    have := area_in h1
    omega
  have e1 := apl_len' b hv hn0 l; have e2 := apl_len' a hv hn0 (apl w.toNat h.toNat b l n); have e3 := apl_len' (aft w h a b) hv hn0 l
  have heq : apl w.toNat h.toNat (aft w h a b) l n = apl w.toNat h.toNat a (apl w.toNat h.toNat b l n) n := groups_apl hv ha hb hn0
  have hv1 : vst w h (apl w.toNat h.toNat b l n) = true := apl_vst hv hn0
  have hsh := vst_short hv
  have HE1 := Lib.hid e1; have HE2 := Lib.hid e2; have HE3 := Lib.hid e3; have HEQ := Lib.hid heq; have HV1 := Lib.hid hv1; have HSH := Lib.hid hsh; have HN0 := Lib.hid hn0
  clear e1 e2 e3 heq hv1 hsh hn0
  have hs0 : okSize w h = true := (vst_len hv).1
  have HSZ := Lib.hid hs0; have HAB := Lib.hid (aft_has hs0 ha hb); have HBD := Lib.hid (aft_has hs0 hb hd); have HI := Lib.hid (inv_has hs0 ha); clear hs0
  have HL := Lib.hid hl; have HV := Lib.hid hv; have FA := Lib.hid ha; have FB := Lib.hid hb; have FD := Lib.hid hd
  clear hl hv ha hb hd
  go_enter Try.func6, Try.ntmps6
  go_wp2_with fail
  have hs : Q3 ((((W.alloc (.cells #[.int .i64 w, .int .i64 h, .slice A n c] 24)).alloc (.cells #[.int .i64 a.dx, .int .i64 a.dy, .int .i64 a.t, .bool a.f] 26)).alloc (.cells #[.int .i64 b.dx, .int .i64 b.dy, .int .i64 b.t, .bool b.f] 26)).alloc (.cells #[.int .i64 d.dx, .int .i64 d.dy, .int .i64 d.t, .bool d.f] 26)) (W.heap.size) (.int .i64 w) (.int .i64 h) (.slice A n c) := by
    refine ⟨?_, ?_, ?_⟩ <;> (rw [World.cell?_alloc_past _ _ _ (by simp <;> omega), World.cell?_alloc_past _ _ _ (by simp <;> omega), World.cell?_alloc_past _ _ _ (by simp), World.cell?_alloc_new]; rfl)
  have qa : Q4 ((((W.alloc (.cells #[.int .i64 w, .int .i64 h, .slice A n c] 24)).alloc (.cells #[.int .i64 a.dx, .int .i64 a.dy, .int .i64 a.t, .bool a.f] 26)).alloc (.cells #[.int .i64 b.dx, .int .i64 b.dy, .int .i64 b.t, .bool b.f] 26)).alloc (.cells #[.int .i64 d.dx, .int .i64 d.dy, .int .i64 d.t, .bool d.f] 26)) (W.heap.size + 1) (.int .i64 a.dx) (.int .i64 a.dy) (.int .i64 a.t) (.bool a.f) := by
    refine ⟨?_, ?_, ?_, ?_⟩ <;> (rw [World.cell?_alloc_past _ _ _ (by simp <;> omega), World.cell?_alloc_past _ _ _ (by simp), World.cell?_alloc_at _ _ _ _ (by simp)]; rfl)
  have qb : Q4 ((((W.alloc (.cells #[.int .i64 w, .int .i64 h, .slice A n c] 24)).alloc (.cells #[.int .i64 a.dx, .int .i64 a.dy, .int .i64 a.t, .bool a.f] 26)).alloc (.cells #[.int .i64 b.dx, .int .i64 b.dy, .int .i64 b.t, .bool b.f] 26)).alloc (.cells #[.int .i64 d.dx, .int .i64 d.dy, .int .i64 d.t, .bool d.f] 26)) (W.heap.size + 1 + 1) (.int .i64 b.dx) (.int .i64 b.dy) (.int .i64 b.t) (.bool b.f) := by
    refine ⟨?_, ?_, ?_, ?_⟩ <;> (rw [World.cell?_alloc_past _ _ _ (by simp), World.cell?_alloc_at _ _ _ _ (by simp)]; rfl)
  have qd : Q4 ((((W.alloc (.cells #[.int .i64 w, .int .i64 h, .slice A n c] 24)).alloc (.cells #[.int .i64 a.dx, .int .i64 a.dy, .int .i64 a.t, .bool a.f] 26)).alloc (.cells #[.int .i64 b.dx, .int .i64 b.dy, .int .i64 b.t, .bool b.f] 26)).alloc (.cells #[.int .i64 d.dx, .int .i64 d.dy, .int .i64 d.t, .bool d.f] 26)) (W.heap.size + 1 + 1 + 1) (.int .i64 d.dx) (.int .i64 d.dy) (.int .i64 d.t) (.bool d.f) := by
    refine ⟨?_, ?_, ?_, ?_⟩ <;> (rw [World.cell?_alloc_at _ _ _ _ (by simp)]; rfl)
  have bb := al4 W (.cells #[.int .i64 w, .int .i64 h, .slice A n c] 24) (.cells #[.int .i64 a.dx, .int .i64 a.dy, .int .i64 a.t, .bool a.f] 26) (.cells #[.int .i64 b.dx, .int .i64 b.dy, .int .i64 b.t, .bool b.f] 26) (.cells #[.int .i64 d.dx, .int .i64 d.dy, .int .i64 d.t, .bool d.f] 26)
  have zz : ((((W.alloc (.cells #[.int .i64 w, .int .i64 h, .slice A n c] 24)).alloc (.cells #[.int .i64 a.dx, .int .i64 a.dy, .int .i64 a.t, .bool a.f] 26)).alloc (.cells #[.int .i64 b.dx, .int .i64 b.dy, .int .i64 b.t, .bool b.f] 26)).alloc (.cells #[.int .i64 d.dx, .int .i64 d.dy, .int .i64 d.t, .bool d.f] 26)).heap.size = W.heap.size + 1 + 1 + 1 + 1 := by simp
  generalize ((((W.alloc (.cells #[.int .i64 w, .int .i64 h, .slice A n c] 24)).alloc (.cells #[.int .i64 a.dx, .int .i64 a.dy, .int .i64 a.t, .bool a.f] 26)).alloc (.cells #[.int .i64 b.dx, .int .i64 b.dy, .int .i64 b.t, .bool b.f] 26)).alloc (.cells #[.int .i64 d.dx, .int .i64 d.dy, .int .i64 d.t, .bool d.f] 26)) = W4 at *
  have zle : W.heap.size + 1 + 1 + 1 + 1 ≤ W4.heap.size := by omega
  have BB : Hid (Ext W W4) := Lib.hid bb; clear bb zz
  have HS := Lib.hid hs; have Ha := Lib.hid qa; have Hb := Lib.hid qb; have Hd := Lib.hid qd
  clear hs qa qb qd
  have e0 : Ext W4 W4 := Ext.refl _
  have s0 := keepAt e0 (by omega) HS.out.1
  have s1 := keepAt e0 (by omega) HS.out.2.1
  have s2 := keepAt e0 (by omega) HS.out.2.2
  have a0 := keepAt e0 (by omega) Ha.out.1
  have a1 := keepAt e0 (by omega) Ha.out.2.1
  have a2 := keepAt e0 (by omega) Ha.out.2.2.1
  have a3 := keepAt e0 (by omega) Ha.out.2.2.2
  have b0 := keepAt e0 (by omega) Hb.out.1
  have b1 := keepAt e0 (by omega) Hb.out.2.1
  have b2 := keepAt e0 (by omega) Hb.out.2.2.1
  have b3 := keepAt e0 (by omega) Hb.out.2.2.2
  have d0 := keepAt e0 (by omega) Hd.out.1
  have d1 := keepAt e0 (by omega) Hd.out.2.1
  have d2 := keepAt e0 (by omega) Hd.out.2.2.1
  have d3 := keepAt e0 (by omega) Hd.out.2.2.2
  refine (validR_is HV.out _ (HL.out.ext BB.out).il).mono ?_
  rintro e w1 ⟨rfl, hb⟩
  have e1 : Ext W4 w1 := hb
  clear s0 s1 s2 a0 a1 a2 a3 b0 b1 b2 b3 d0 d1 d2 d3
  clear hb e0
  have s0 := keepAt e1 (by omega) HS.out.1
  have s1 := keepAt e1 (by omega) HS.out.2.1
  have s2 := keepAt e1 (by omega) HS.out.2.2
  have a0 := keepAt e1 (by omega) Ha.out.1
  have a1 := keepAt e1 (by omega) Ha.out.2.1
  have a2 := keepAt e1 (by omega) Ha.out.2.2.1
  have a3 := keepAt e1 (by omega) Ha.out.2.2.2
  have b0 := keepAt e1 (by omega) Hb.out.1
  have b1 := keepAt e1 (by omega) Hb.out.2.1
  have b2 := keepAt e1 (by omega) Hb.out.2.2.1
  have b3 := keepAt e1 (by omega) Hb.out.2.2.2
  have d0 := keepAt e1 (by omega) Hd.out.1
  have d1 := keepAt e1 (by omega) Hd.out.2.1
  have d2 := keepAt e1 (by omega) Hd.out.2.2.1
  have d3 := keepAt e1 (by omega) Hd.out.2.2.2
  go_wp2_with fail
  refine (fits_is FA.out _).mono ?_
  rintro e w2 ⟨rfl, hb⟩
  have e2 : Ext W4 w2 := e1.trans (Ext.of hb)
  clear s0 s1 s2 a0 a1 a2 a3 b0 b1 b2 b3 d0 d1 d2 d3
  clear hb e1
  have s0 := keepAt e2 (by omega) HS.out.1
  have s1 := keepAt e2 (by omega) HS.out.2.1
  have s2 := keepAt e2 (by omega) HS.out.2.2
  have a0 := keepAt e2 (by omega) Ha.out.1
  have a1 := keepAt e2 (by omega) Ha.out.2.1
  have a2 := keepAt e2 (by omega) Ha.out.2.2.1
  have a3 := keepAt e2 (by omega) Ha.out.2.2.2
  have b0 := keepAt e2 (by omega) Hb.out.1
  have b1 := keepAt e2 (by omega) Hb.out.2.1
  have b2 := keepAt e2 (by omega) Hb.out.2.2.1
  have b3 := keepAt e2 (by omega) Hb.out.2.2.2
  have d0 := keepAt e2 (by omega) Hd.out.1
  have d1 := keepAt e2 (by omega) Hd.out.2.1
  have d2 := keepAt e2 (by omega) Hd.out.2.2.1
  have d3 := keepAt e2 (by omega) Hd.out.2.2.2
  go_wp2_with fail
  refine (fits_is FB.out _).mono ?_
  rintro e w3 ⟨rfl, hb⟩
  have e3 : Ext W4 w3 := e2.trans (Ext.of hb)
  clear s0 s1 s2 a0 a1 a2 a3 b0 b1 b2 b3 d0 d1 d2 d3
  clear hb e2
  have s0 := keepAt e3 (by omega) HS.out.1
  have s1 := keepAt e3 (by omega) HS.out.2.1
  have s2 := keepAt e3 (by omega) HS.out.2.2
  have a0 := keepAt e3 (by omega) Ha.out.1
  have a1 := keepAt e3 (by omega) Ha.out.2.1
  have a2 := keepAt e3 (by omega) Ha.out.2.2.1
  have a3 := keepAt e3 (by omega) Ha.out.2.2.2
  have b0 := keepAt e3 (by omega) Hb.out.1
  have b1 := keepAt e3 (by omega) Hb.out.2.1
  have b2 := keepAt e3 (by omega) Hb.out.2.2.1
  have b3 := keepAt e3 (by omega) Hb.out.2.2.2
  have d0 := keepAt e3 (by omega) Hd.out.1
  have d1 := keepAt e3 (by omega) Hd.out.2.1
  have d2 := keepAt e3 (by omega) Hd.out.2.2.1
  have d3 := keepAt e3 (by omega) Hd.out.2.2.2
  go_wp2_with fail
  refine (fits_is FD.out _).mono ?_
  rintro e w4 ⟨rfl, hb⟩
  have e4 : Ext W4 w4 := e3.trans (Ext.of hb)
  clear s0 s1 s2 a0 a1 a2 a3 b0 b1 b2 b3 d0 d1 d2 d3
  clear hb e3
  have s0 := keepAt e4 (by omega) HS.out.1
  have s1 := keepAt e4 (by omega) HS.out.2.1
  have s2 := keepAt e4 (by omega) HS.out.2.2
  have a0 := keepAt e4 (by omega) Ha.out.1
  have a1 := keepAt e4 (by omega) Ha.out.2.1
  have a2 := keepAt e4 (by omega) Ha.out.2.2.1
  have a3 := keepAt e4 (by omega) Ha.out.2.2.2
  have b0 := keepAt e4 (by omega) Hb.out.1
  have b1 := keepAt e4 (by omega) Hb.out.2.1
  have b2 := keepAt e4 (by omega) Hb.out.2.2.1
  have b3 := keepAt e4 (by omega) Hb.out.2.2.2
  have d0 := keepAt e4 (by omega) Hd.out.1
  have d1 := keepAt e4 (by omega) Hd.out.2.1
  have d2 := keepAt e4 (by omega) Hd.out.2.2.1
  have d3 := keepAt e4 (by omega) Hd.out.2.2.2
  have zz4 := e4.size
  go_upto_region 5 with fail
  have E4 := Lib.hid e4
  go_cut [11, 12, 13, 14, 15] (fun s11 s12 s13 s14 s15 wx => GCut w4 w h a b d s11 s12 s13 s14 s15 wx)
  case first =>
    refine wp_region_noPanic ?_
    refine wp_pool 15 [some 87, some 88, some 89, some 90, some 91, some 92, some 93, some 94, some 95, some 96, some 13, some 14, some 15, some 11, some 12] [] [10, 11, 12] [(fun (v : Value) (_ : World) => v = .pointer (some ⟨W.heap.size, 0, none⟩)), (fun (v : Value) (_ : World) => v = .int .i64 w), (fun (v : Value) (_ : World) => v = .pointer (some ⟨W.heap.size, 1, none⟩)), (fun (v : Value) (_ : World) => v = .int .i64 h), (fun (v : Value) (_ : World) => v = .agg #[.int .i64 a.dx, .int .i64 a.dy, .int .i64 a.t, .bool a.f]), (fun (v : Value) (_ : World) => v = .agg #[.int .i64 a.dx, .int .i64 a.dy, .int .i64 a.t, .bool a.f]), (fun (v : Value) (_ : World) => v = .agg #[.int .i64 b.dx, .int .i64 b.dy, .int .i64 b.t, .bool b.f]), (fun (v : Value) (_ : World) => v = .agg #[.int .i64 b.dx, .int .i64 b.dy, .int .i64 b.t, .bool b.f]), (fun (v : Value) (_ : World) => v = .agg #[.int .i64 d.dx, .int .i64 d.dy, .int .i64 d.t, .bool d.f]), (fun (v : Value) (_ : World) => v = .agg #[.int .i64 d.dx, .int .i64 d.dy, .int .i64 d.t, .bool d.f]), (fun (v : Value) (X : World) => ∃ g, v = .pointer (some ⟨g, 0, none⟩) ∧ w4.heap.size ≤ g ∧ QB X g), (fun (v : Value) (X : World) => ∃ g, v = .pointer (some ⟨g, 0, none⟩) ∧ w4.heap.size ≤ g ∧ QB X g), (fun (v : Value) (X : World) => ∃ g, v = .pointer (some ⟨g, 0, none⟩) ∧ w4.heap.size ≤ g ∧ QB X g), (fun (v : Value) (_ : World) => v = .int .i64 w), (fun (v : Value) (_ : World) => v = .int .i64 h)] [noF, noF, noF, noF, noF, noF, noF, noF, noF, noF, ptrF, ptrF, ptrF, noF, noF] (by kernel_rfl) (by kernel_rfl) (by kernel_rfl) (by kernel_rfl) (by kernel_rfl) (by kernel_rfl) (by kernel_rfl) (by kernel_rfl) (fun _ _ _ _ h => h) ⟨Stays.pure _, Stays.pure _, Stays.pure _, Stays.pure _, Stays.pure _, Stays.pure _, Stays.pure _, Stays.pure _, Stays.pure _, Stays.pure _, (fun _ _ _ e ⟨g, h1, h2, h3⟩ => ⟨g, h1, h2, h3.ext e⟩), (fun _ _ _ e ⟨g, h1, h2, h3⟩ => ⟨g, h1, h2, h3.ext e⟩), (fun _ _ _ e ⟨g, h1, h2, h3⟩ => ⟨g, h1, h2, h3.ext e⟩), Stays.pure _, Stays.pure _, True.intro⟩ ?steps ?done
    case steps =>
      simp only [List.take_succ_cons, List.take_zero]
      refine Steps.cons (fun (v : Value) (_ : World) => v = .pointer (some ⟨W.heap.size, 0, none⟩)) [] rfl (by kernel_rfl) rfl (by kernel_rfl) (fun y X ex0 hf K hK => ?_) ?_
      · clear hf
        have ex := (Ext.drw (Ext.refl _)).trans ex0
        refine Box.mk ?_
        simp only [fill, Act.put, Nat.reduceAdd, List.setIfInBounds_toArray, List.set_cons_zero, List.set_cons_succ] at hK ⊢
        go_simp
        exact hK.out _ _ rfl (Ext.refl _) (fun b hb => by cases hb)
      refine Steps.cons (fun (v : Value) (_ : World) => v = .int .i64 w) [0] rfl (by kernel_rfl) rfl (by kernel_rfl) (fun y X ex0 hf K hK => ?_) ?_
      · have h0 : ((fun (v : Value) (_ : World) => v = .pointer (some ⟨W.heap.size, 0, none⟩))) (y 0) X := hf.1
        clear hf
        have ex := (Ext.drw (Ext.refl _)).trans ex0
        refine Box.mk ?_
        simp only [fill, Act.put, Nat.reduceAdd, List.setIfInBounds_toArray, List.set_cons_zero, List.set_cons_succ, h0] at hK ⊢
        have q0 := keepAt ex (by omega) s0
        go_simp
        exact hK.out _ _ rfl (Ext.refl _) (fun b hb => by cases hb)
      refine Steps.cons (fun (v : Value) (_ : World) => v = .pointer (some ⟨W.heap.size, 1, none⟩)) [] rfl (by kernel_rfl) rfl (by kernel_rfl) (fun y X ex0 hf K hK => ?_) ?_
      · clear hf
        have ex := (Ext.drw (Ext.refl _)).trans ex0
        refine Box.mk ?_
        simp only [fill, Act.put, Nat.reduceAdd, List.setIfInBounds_toArray, List.set_cons_zero, List.set_cons_succ] at hK ⊢
        go_simp
        exact hK.out _ _ rfl (Ext.refl _) (fun b hb => by cases hb)
      refine Steps.cons (fun (v : Value) (_ : World) => v = .int .i64 h) [2] rfl (by kernel_rfl) rfl (by kernel_rfl) (fun y X ex0 hf K hK => ?_) ?_
      · have h2 : ((fun (v : Value) (_ : World) => v = .pointer (some ⟨W.heap.size, 1, none⟩))) (y 2) X := hf.1
        clear hf
        have ex := (Ext.drw (Ext.refl _)).trans ex0
        refine Box.mk ?_
        simp only [fill, Act.put, Nat.reduceAdd, List.setIfInBounds_toArray, List.set_cons_zero, List.set_cons_succ, h2] at hK ⊢
        have q0 := keepAt ex (by omega) s1
        go_simp
        exact hK.out _ _ rfl (Ext.refl _) (fun b hb => by cases hb)
      refine Steps.cons (fun (v : Value) (_ : World) => v = .agg #[.int .i64 a.dx, .int .i64 a.dy, .int .i64 a.t, .bool a.f]) [] rfl (by kernel_rfl) rfl (by kernel_rfl) (fun y X ex0 hf K hK => ?_) ?_
      · clear hf
        have ex := (Ext.drw (Ext.refl _)).trans ex0
        refine Box.mk ?_
        simp only [fill, Act.put, Nat.reduceAdd, List.setIfInBounds_toArray, List.set_cons_zero, List.set_cons_succ] at hK ⊢
        have q0 := keepAt ex (by omega) a0
        have q1 := keepAt ex (by omega) a1
        have q2 := keepAt ex (by omega) a2
        have q3 := keepAt ex (by omega) a3
        go_simp
        exact hK.out _ _ rfl (Ext.refl _) (fun b hb => by cases hb)
      refine Steps.cons (fun (v : Value) (_ : World) => v = .agg #[.int .i64 a.dx, .int .i64 a.dy, .int .i64 a.t, .bool a.f]) [4] rfl (by kernel_rfl) rfl (by kernel_rfl) (fun y X ex0 hf K hK => ?_) ?_
      · have h4 : ((fun (v : Value) (_ : World) => v = .agg #[.int .i64 a.dx, .int .i64 a.dy, .int .i64 a.t, .bool a.f])) (y 4) X := hf.1
        clear hf
        have ex := (Ext.drw (Ext.refl _)).trans ex0
        refine Box.mk ?_
        simp only [fill, Act.put, Nat.reduceAdd, List.setIfInBounds_toArray, List.set_cons_zero, List.set_cons_succ, h4] at hK ⊢
        go_simp
        refine (move_any a _).mono ?_
        rintro e V ⟨rfl, hb⟩
        try go_wp2_with fail
        exact hK.out _ _ rfl hb (fun b hb => by cases hb)
      refine Steps.cons (fun (v : Value) (_ : World) => v = .agg #[.int .i64 b.dx, .int .i64 b.dy, .int .i64 b.t, .bool b.f]) [] rfl (by kernel_rfl) rfl (by kernel_rfl) (fun y X ex0 hf K hK => ?_) ?_
      · clear hf
        have ex := (Ext.drw (Ext.refl _)).trans ex0
        refine Box.mk ?_
        simp only [fill, Act.put, Nat.reduceAdd, List.setIfInBounds_toArray, List.set_cons_zero, List.set_cons_succ] at hK ⊢
        have q0 := keepAt ex (by omega) b0
        have q1 := keepAt ex (by omega) b1
        have q2 := keepAt ex (by omega) b2
        have q3 := keepAt ex (by omega) b3
        go_simp
        exact hK.out _ _ rfl (Ext.refl _) (fun b hb => by cases hb)
      refine Steps.cons (fun (v : Value) (_ : World) => v = .agg #[.int .i64 b.dx, .int .i64 b.dy, .int .i64 b.t, .bool b.f]) [6, 5] rfl (by kernel_rfl) rfl (by kernel_rfl) (fun y X ex0 hf K hK => ?_) ?_
      · have h6 : ((fun (v : Value) (_ : World) => v = .agg #[.int .i64 b.dx, .int .i64 b.dy, .int .i64 b.t, .bool b.f])) (y 6) X := hf.1
        have h5 : ((fun (v : Value) (_ : World) => v = .agg #[.int .i64 a.dx, .int .i64 a.dy, .int .i64 a.t, .bool a.f])) (y 5) X := hf.2.1
        clear hf
        have ex := (Ext.drw (Ext.refl _)).trans ex0
        refine Box.mk ?_
        simp only [fill, Act.put, Nat.reduceAdd, List.setIfInBounds_toArray, List.set_cons_zero, List.set_cons_succ, h6, h5] at hK ⊢
        go_simp
        refine (move_any b _).mono ?_
        rintro e V ⟨rfl, hb⟩
        try go_wp2_with fail
        exact hK.out _ _ rfl hb (fun b hb => by cases hb)
      refine Steps.cons (fun (v : Value) (_ : World) => v = .agg #[.int .i64 d.dx, .int .i64 d.dy, .int .i64 d.t, .bool d.f]) [] rfl (by kernel_rfl) rfl (by kernel_rfl) (fun y X ex0 hf K hK => ?_) ?_
      · clear hf
        have ex := (Ext.drw (Ext.refl _)).trans ex0
        refine Box.mk ?_
        simp only [fill, Act.put, Nat.reduceAdd, List.setIfInBounds_toArray, List.set_cons_zero, List.set_cons_succ] at hK ⊢
        have q0 := keepAt ex (by omega) d0
        have q1 := keepAt ex (by omega) d1
        have q2 := keepAt ex (by omega) d2
        have q3 := keepAt ex (by omega) d3
        go_simp
        exact hK.out _ _ rfl (Ext.refl _) (fun b hb => by cases hb)
      refine Steps.cons (fun (v : Value) (_ : World) => v = .agg #[.int .i64 d.dx, .int .i64 d.dy, .int .i64 d.t, .bool d.f]) [8, 7] rfl (by kernel_rfl) rfl (by kernel_rfl) (fun y X ex0 hf K hK => ?_) ?_
      · have h8 : ((fun (v : Value) (_ : World) => v = .agg #[.int .i64 d.dx, .int .i64 d.dy, .int .i64 d.t, .bool d.f])) (y 8) X := hf.1
        have h7 : ((fun (v : Value) (_ : World) => v = .agg #[.int .i64 b.dx, .int .i64 b.dy, .int .i64 b.t, .bool b.f])) (y 7) X := hf.2.1
        clear hf
        have ex := (Ext.drw (Ext.refl _)).trans ex0
        refine Box.mk ?_
        simp only [fill, Act.put, Nat.reduceAdd, List.setIfInBounds_toArray, List.set_cons_zero, List.set_cons_succ, h8, h7] at hK ⊢
        go_simp
        refine (move_any d _).mono ?_
        rintro e V ⟨rfl, hb⟩
        try go_wp2_with fail
        exact hK.out _ _ rfl hb (fun b hb => by cases hb)
      refine Steps.cons (fun (v : Value) (X : World) => ∃ g, v = .pointer (some ⟨g, 0, none⟩) ∧ w4.heap.size ≤ g ∧ QB X g) [] rfl (by kernel_rfl) rfl (by kernel_rfl) (fun y X ex0 hf K hK => ?_) ?_
      · clear hf
        have ex := (Ext.drw (Ext.refl _)).trans ex0
        refine Box.mk ?_
        simp only [fill, Act.put, Nat.reduceAdd, List.setIfInBounds_toArray, List.set_cons_zero, List.set_cons_succ] at hK ⊢
        go_simp
        exact hK.out _ _ ⟨X.heap.size, rfl, ex.size, QB.new X (.int .i64 0) (.int .i64 0) (.int .i64 0) (.bool false) 31⟩ (Ext.alc (Ext.refl X) (.cells #[.int .i64 0, .int .i64 0, .int .i64 0, .bool false] 31)) (New.ptr (Nat.le_refl _) (by simp))
      refine Steps.cons (fun (v : Value) (X : World) => ∃ g, v = .pointer (some ⟨g, 0, none⟩) ∧ w4.heap.size ≤ g ∧ QB X g) [] rfl (by kernel_rfl) rfl (by kernel_rfl) (fun y X ex0 hf K hK => ?_) ?_
      · clear hf
        have ex := (Ext.drw (Ext.refl _)).trans ex0
        refine Box.mk ?_
        simp only [fill, Act.put, Nat.reduceAdd, List.setIfInBounds_toArray, List.set_cons_zero, List.set_cons_succ] at hK ⊢
        go_simp
        exact hK.out _ _ ⟨X.heap.size, rfl, ex.size, QB.new X (.int .i64 0) (.int .i64 0) (.int .i64 0) (.bool false) 31⟩ (Ext.alc (Ext.refl X) (.cells #[.int .i64 0, .int .i64 0, .int .i64 0, .bool false] 31)) (New.ptr (Nat.le_refl _) (by simp))
      refine Steps.cons (fun (v : Value) (X : World) => ∃ g, v = .pointer (some ⟨g, 0, none⟩) ∧ w4.heap.size ≤ g ∧ QB X g) [] rfl (by kernel_rfl) rfl (by kernel_rfl) (fun y X ex0 hf K hK => ?_) ?_
      · clear hf
        have ex := (Ext.drw (Ext.refl _)).trans ex0
        refine Box.mk ?_
        simp only [fill, Act.put, Nat.reduceAdd, List.setIfInBounds_toArray, List.set_cons_zero, List.set_cons_succ] at hK ⊢
        go_simp
        exact hK.out _ _ ⟨X.heap.size, rfl, ex.size, QB.new X (.int .i64 0) (.int .i64 0) (.int .i64 0) (.bool false) 31⟩ (Ext.alc (Ext.refl X) (.cells #[.int .i64 0, .int .i64 0, .int .i64 0, .bool false] 31)) (New.ptr (Nat.le_refl _) (by simp))
      refine Steps.cons (fun (v : Value) (_ : World) => v = .int .i64 w) [1, 9, 0, 10, 11, 12] rfl (by kernel_rfl) rfl (by kernel_rfl) (fun y X ex0 hf K hK => ?_) ?_
      · have h1 : ((fun (v : Value) (_ : World) => v = .int .i64 w)) (y 1) X := hf.1
        have h9 : ((fun (v : Value) (_ : World) => v = .agg #[.int .i64 d.dx, .int .i64 d.dy, .int .i64 d.t, .bool d.f])) (y 9) X := hf.2.1
        have h0 : ((fun (v : Value) (_ : World) => v = .pointer (some ⟨W.heap.size, 0, none⟩))) (y 0) X := hf.2.2.1
        have hh10 : ((fun (v : Value) (X : World) => ∃ g, v = .pointer (some ⟨g, 0, none⟩) ∧ w4.heap.size ≤ g ∧ QB X g)) (y 10) X := hf.2.2.2.1
        refine Exists.elim hh10 (fun g10 hx10_0 => ?_)
        have h10 := hx10_0.1
        have z10 := hx10_0.2.1
        have q10 := hx10_0.2.2
        clear hh10 hx10_0
        have hh11 : ((fun (v : Value) (X : World) => ∃ g, v = .pointer (some ⟨g, 0, none⟩) ∧ w4.heap.size ≤ g ∧ QB X g)) (y 11) X := hf.2.2.2.2.1
        refine Exists.elim hh11 (fun g11 hx11_0 => ?_)
        have h11 := hx11_0.1
        have z11 := hx11_0.2.1
        have q11 := hx11_0.2.2
        clear hh11 hx11_0
        have hh12 : ((fun (v : Value) (X : World) => ∃ g, v = .pointer (some ⟨g, 0, none⟩) ∧ w4.heap.size ≤ g ∧ QB X g)) (y 12) X := hf.2.2.2.2.2.1
        refine Exists.elim hh12 (fun g12 hx12_0 => ?_)
        have h12 := hx12_0.1
        have z12 := hx12_0.2.1
        have q12 := hx12_0.2.2
        clear hh12 hx12_0
        clear hf
        have ex := (Ext.drw (Ext.refl _)).trans ex0
        refine Box.mk ?_
        simp only [fill, Act.put, Nat.reduceAdd, List.setIfInBounds_toArray, List.set_cons_zero, List.set_cons_succ, h1, h9, h0, h10, h11, h12] at hK ⊢
        go_simp
        exact hK.out _ _ rfl (Ext.refl _) (fun b hb => by cases hb)
      refine Steps.cons (fun (v : Value) (_ : World) => v = .int .i64 h) [3, 13, 0, 1, 2, 10, 11, 12] rfl (by kernel_rfl) rfl (by kernel_rfl) (fun y X ex0 hf K hK => ?_) ?_
      · have h3 : ((fun (v : Value) (_ : World) => v = .int .i64 h)) (y 3) X := hf.1
        have h13 : ((fun (v : Value) (_ : World) => v = .int .i64 w)) (y 13) X := hf.2.1
        have h0 : ((fun (v : Value) (_ : World) => v = .pointer (some ⟨W.heap.size, 0, none⟩))) (y 0) X := hf.2.2.1
        have h1 : ((fun (v : Value) (_ : World) => v = .int .i64 w)) (y 1) X := hf.2.2.2.1
        have h2 : ((fun (v : Value) (_ : World) => v = .pointer (some ⟨W.heap.size, 1, none⟩))) (y 2) X := hf.2.2.2.2.1
        have hh10 : ((fun (v : Value) (X : World) => ∃ g, v = .pointer (some ⟨g, 0, none⟩) ∧ w4.heap.size ≤ g ∧ QB X g)) (y 10) X := hf.2.2.2.2.2.1
        refine Exists.elim hh10 (fun g10 hx10_0 => ?_)
        have h10 := hx10_0.1
        have z10 := hx10_0.2.1
        have q10 := hx10_0.2.2
        clear hh10 hx10_0
        have hh11 : ((fun (v : Value) (X : World) => ∃ g, v = .pointer (some ⟨g, 0, none⟩) ∧ w4.heap.size ≤ g ∧ QB X g)) (y 11) X := hf.2.2.2.2.2.2.1
        refine Exists.elim hh11 (fun g11 hx11_0 => ?_)
        have h11 := hx11_0.1
        have z11 := hx11_0.2.1
        have q11 := hx11_0.2.2
        clear hh11 hx11_0
        have hh12 : ((fun (v : Value) (X : World) => ∃ g, v = .pointer (some ⟨g, 0, none⟩) ∧ w4.heap.size ≤ g ∧ QB X g)) (y 12) X := hf.2.2.2.2.2.2.2.1
        refine Exists.elim hh12 (fun g12 hx12_0 => ?_)
        have h12 := hx12_0.1
        have z12 := hx12_0.2.1
        have q12 := hx12_0.2.2
        clear hh12 hx12_0
        clear hf
        have ex := (Ext.drw (Ext.refl _)).trans ex0
        refine Box.mk ?_
        simp only [fill, Act.put, Nat.reduceAdd, List.setIfInBounds_toArray, List.set_cons_zero, List.set_cons_succ, h3, h13, h0, h1, h2, h10, h11, h12] at hK ⊢
        go_simp
        exact hK.out _ _ rfl (Ext.refl _) (fun b hb => by cases hb)
      exact Steps.nil
    case done =>
      intro y X ex hf hlt hsep
      have h0 : ((fun (v : Value) (_ : World) => v = .pointer (some ⟨W.heap.size, 0, none⟩))) (y 0) X := hf.1
      have h1 : ((fun (v : Value) (_ : World) => v = .int .i64 w)) (y 1) X := hf.2.1
      have h2 : ((fun (v : Value) (_ : World) => v = .pointer (some ⟨W.heap.size, 1, none⟩))) (y 2) X := hf.2.2.1
      have h3 : ((fun (v : Value) (_ : World) => v = .int .i64 h)) (y 3) X := hf.2.2.2.1
      have h4 : ((fun (v : Value) (_ : World) => v = .agg #[.int .i64 a.dx, .int .i64 a.dy, .int .i64 a.t, .bool a.f])) (y 4) X := hf.2.2.2.2.1
      have h5 : ((fun (v : Value) (_ : World) => v = .agg #[.int .i64 a.dx, .int .i64 a.dy, .int .i64 a.t, .bool a.f])) (y 5) X := hf.2.2.2.2.2.1
      have h6 : ((fun (v : Value) (_ : World) => v = .agg #[.int .i64 b.dx, .int .i64 b.dy, .int .i64 b.t, .bool b.f])) (y 6) X := hf.2.2.2.2.2.2.1
      have h7 : ((fun (v : Value) (_ : World) => v = .agg #[.int .i64 b.dx, .int .i64 b.dy, .int .i64 b.t, .bool b.f])) (y 7) X := hf.2.2.2.2.2.2.2.1
      have h8 : ((fun (v : Value) (_ : World) => v = .agg #[.int .i64 d.dx, .int .i64 d.dy, .int .i64 d.t, .bool d.f])) (y 8) X := hf.2.2.2.2.2.2.2.2.1
      have h9 : ((fun (v : Value) (_ : World) => v = .agg #[.int .i64 d.dx, .int .i64 d.dy, .int .i64 d.t, .bool d.f])) (y 9) X := hf.2.2.2.2.2.2.2.2.2.1
      have hh10 : ((fun (v : Value) (X : World) => ∃ g, v = .pointer (some ⟨g, 0, none⟩) ∧ w4.heap.size ≤ g ∧ QB X g)) (y 10) X := hf.2.2.2.2.2.2.2.2.2.2.1
      refine Exists.elim hh10 (fun g10 hx10_0 => ?_)
      have h10 := hx10_0.1
      have z10 := hx10_0.2.1
      have q10 := hx10_0.2.2
      clear hh10 hx10_0
      have hh11 : ((fun (v : Value) (X : World) => ∃ g, v = .pointer (some ⟨g, 0, none⟩) ∧ w4.heap.size ≤ g ∧ QB X g)) (y 11) X := hf.2.2.2.2.2.2.2.2.2.2.2.1
      refine Exists.elim hh11 (fun g11 hx11_0 => ?_)
      have h11 := hx11_0.1
      have z11 := hx11_0.2.1
      have q11 := hx11_0.2.2
      clear hh11 hx11_0
      have hh12 : ((fun (v : Value) (X : World) => ∃ g, v = .pointer (some ⟨g, 0, none⟩) ∧ w4.heap.size ≤ g ∧ QB X g)) (y 12) X := hf.2.2.2.2.2.2.2.2.2.2.2.2.1
      refine Exists.elim hh12 (fun g12 hx12_0 => ?_)
      have h12 := hx12_0.1
      have z12 := hx12_0.2.1
      have q12 := hx12_0.2.2
      clear hh12 hx12_0
      have h13 : ((fun (v : Value) (_ : World) => v = .int .i64 w)) (y 13) X := hf.2.2.2.2.2.2.2.2.2.2.2.2.2.1
      have h14 : ((fun (v : Value) (_ : World) => v = .int .i64 h)) (y 14) X := hf.2.2.2.2.2.2.2.2.2.2.2.2.2.2.1
      clear hf
      have n10_11 : g10 ≠ g11 := sep_ne (hsep 10 11 (by decide) (by decide) (by decide) (by decide)) h10 h11
      have n10_12 : g10 ≠ g12 := sep_ne (hsep 10 12 (by decide) (by decide) (by decide) (by decide)) h10 h12
      have n11_12 : g11 ≠ g12 := sep_ne (hsep 11 12 (by decide) (by decide) (by decide) (by decide)) h11 h12
      clear hsep hlt
      refine Box.mk ?_
      simp only [List.drop_succ_cons, List.drop_zero, fill, Act.put, Nat.reduceAdd, List.setIfInBounds_toArray, List.set_cons_zero, List.set_cons_succ, h0, h1, h2, h3, h4, h5, h6, h7, h8, h9, h10, h11, h12, h13, h14]
      clear h0 h1 h2 h3 h4 h5 h6 h7 h8 h9 h10 h11 h12 h13 h14
      have xx := ex.size
      obtain ⟨⟨_, _, _, _, kA0, kA1, kA2, kA3⟩, kA4⟩ := q10.facts
      obtain ⟨⟨_, _, _, _, kB0, kB1, kB2, kB3⟩, kB4⟩ := q11.facts
      obtain ⟨⟨_, _, _, _, kC0, kC1, kC2, kC3⟩, kC4⟩ := q12.facts
      have m1 := n10_11.symm; have m2 := n10_12.symm; have m3 := n11_12.symm
      have QA := Lib.hid q10; have QBB := Lib.hid q11; have QC := Lib.hid q12; have EX := Lib.hid ex; clear q10 q11 q12 ex
      go_wp2_with fail
      refine NoPanic.normal ?_
      go_wp2_with fail
      go_meet
      have l1 := QA.out.lt; have l2 := QBB.out.lt; have l3 := QC.out.lt
      exact ⟨g10, g11, g12, rfl, rfl, rfl, rfl, rfl, ((Q4.put QA.out _ _ _ _).far n10_11).far n10_12, (Q4.put (QBB.out.far m1 _ _ _ _) _ _ _ _).far n11_12, Q4.put ((QC.out.far m2 _ _ _ _).far m3 _ _ _ _) _ _ _ _, by simp [World.setCell]; omega, by simp [World.setCell]; omega, by simp [World.setCell]; omega, ((EX.out.sc4 z10 _ _ _ _).sc4 z11 _ _ _ _).sc4 z12 _ _ _ _⟩
  case rest =>
    obtain ⟨g13, g14, g15, rfl, rfl, rfl, rfl, rfl, y13, y14, y15, l13, l14, l15, e5⟩ := hcut
    have W5 : Hid (Ext W4 wc) := Lib.hid (E4.out.trans e5)
    have Y13 := Lib.hid y13; have Y14 := Lib.hid y14; have Y15 := Lib.hid y15; clear y13 y14 y15
    have lW := e5.size
    clear Ha Hb Hd zz4
    try clear s0 s1 s2 a0 a1 a2 a3 b0 b1 b2 b3 d0 d1 d2 d3
    go_upto_region 5 with fail
    go_cut [16, 17] from 97 to 104 (fun sp se wx => SCut wc (aft w h a b) sp se wx)
    case first =>
      obtain ⟨q130, q131, q132, q133⟩ := Y13.out
      obtain ⟨q140, q141, q142, q143⟩ := Y14.out
      go_wp2_with fail
      refine (after_ttt w h a b _ HSZ.out FA.out FB.out).mono ?_
      rintro e v ⟨rfl, hb⟩
      have HBX := Lib.hid hb; clear hb
      go_wp2_with fail
      go_meet
      have z := HBX.out.size
      refine ⟨v.heap.size, rfl, rfl, ?_, by simp, al HBX.out _⟩
      refine ⟨?_, ?_, ?_, ?_⟩ <;> (rw [World.cell?_alloc_new]; rfl)
    case rest =>
      obtain ⟨g16, rfl, rfl, y16, l16, ex⟩ := hcut
      skip
      replace Y13 := Lib.hid (Y13.out.ext l13 ex)
      replace Y14 := Lib.hid (Y14.out.ext l14 ex)
      replace Y15 := Lib.hid (Y15.out.ext l15 ex)
      replace l13 := Nat.lt_of_lt_of_le l13 ex.size
      replace l14 := Nat.lt_of_lt_of_le l14 ex.size
      replace l15 := Nat.lt_of_lt_of_le l15 ex.size
      have Y16 := Lib.hid y16; clear y16
      replace W5 : Hid (Ext W4 _) := Lib.hid (W5.out.trans ex); replace lW := Nat.le_trans lW ex.size; clear ex
      go_upto_region 6 with fail
      go_cut [18, 19] from 105 to 112 (fun sp se wx => SCut wc (aft w h (aft w h a b) d) sp se wx)
      case first =>
        obtain ⟨q160, q161, q162, q163⟩ := Y16.out
        obtain ⟨q150, q151, q152, q153⟩ := Y15.out
        go_wp2_with fail
        refine (after_ttt w h (aft w h a b) d _ HSZ.out HAB.out FD.out).mono ?_
        rintro e v ⟨rfl, hb⟩
        have HBX := Lib.hid hb; clear hb
        go_wp2_with fail
        go_meet
        have z := HBX.out.size
        refine ⟨v.heap.size, rfl, rfl, ?_, by simp, al HBX.out _⟩
        refine ⟨?_, ?_, ?_, ?_⟩ <;> (rw [World.cell?_alloc_new]; rfl)
      case rest =>
        obtain ⟨g18, rfl, rfl, y18, l18, ex⟩ := hcut
        skip
        replace Y13 := Lib.hid (Y13.out.ext l13 ex)
        replace Y14 := Lib.hid (Y14.out.ext l14 ex)
        replace Y15 := Lib.hid (Y15.out.ext l15 ex)
        replace Y16 := Lib.hid (Y16.out.ext l16 ex)
        replace l13 := Nat.lt_of_lt_of_le l13 ex.size
        replace l14 := Nat.lt_of_lt_of_le l14 ex.size
        replace l15 := Nat.lt_of_lt_of_le l15 ex.size
        replace l16 := Nat.lt_of_lt_of_le l16 ex.size
        have Y18 := Lib.hid y18; clear y18
        replace W5 : Hid (Ext W4 _) := Lib.hid (W5.out.trans ex); replace lW := Nat.le_trans lW ex.size; clear ex
        go_upto_region 7 with fail
        go_cut [20, 21] from 113 to 120 (fun sp se wx => SCut wc (aft w h b d) sp se wx)
        case first =>
          obtain ⟨q140, q141, q142, q143⟩ := Y14.out
          obtain ⟨q150, q151, q152, q153⟩ := Y15.out
          go_wp2_with fail
          refine (after_ttt w h b d _ HSZ.out FB.out FD.out).mono ?_
          rintro e v ⟨rfl, hb⟩
          have HBX := Lib.hid hb; clear hb
          go_wp2_with fail
          go_meet
          have z := HBX.out.size
          refine ⟨v.heap.size, rfl, rfl, ?_, by simp, al HBX.out _⟩
          refine ⟨?_, ?_, ?_, ?_⟩ <;> (rw [World.cell?_alloc_new]; rfl)
        case rest =>
          obtain ⟨g20, rfl, rfl, y20, l20, ex⟩ := hcut
          skip
          replace Y13 := Lib.hid (Y13.out.ext l13 ex)
          replace Y14 := Lib.hid (Y14.out.ext l14 ex)
          replace Y15 := Lib.hid (Y15.out.ext l15 ex)
          replace Y16 := Lib.hid (Y16.out.ext l16 ex)
          replace Y18 := Lib.hid (Y18.out.ext l18 ex)
          replace l13 := Nat.lt_of_lt_of_le l13 ex.size
          replace l14 := Nat.lt_of_lt_of_le l14 ex.size
          replace l15 := Nat.lt_of_lt_of_le l15 ex.size
          replace l16 := Nat.lt_of_lt_of_le l16 ex.size
          replace l18 := Nat.lt_of_lt_of_le l18 ex.size
          have Y20 := Lib.hid y20; clear y20
          replace W5 : Hid (Ext W4 _) := Lib.hid (W5.out.trans ex); replace lW := Nat.le_trans lW ex.size; clear ex
          go_upto_region 8 with fail
          go_cut [22, 23] from 121 to 128 (fun sp se wx => SCut wc (aft w h a (aft w h b d)) sp se wx)
          case first =>
            obtain ⟨q130, q131, q132, q133⟩ := Y13.out
            obtain ⟨q200, q201, q202, q203⟩ := Y20.out
            go_wp2_with fail
            refine (after_ttt w h a (aft w h b d) _ HSZ.out FA.out HBD.out).mono ?_
            rintro e v ⟨rfl, hb⟩
            have HBX := Lib.hid hb; clear hb
            go_wp2_with fail
            go_meet
            have z := HBX.out.size
            refine ⟨v.heap.size, rfl, rfl, ?_, by simp, al HBX.out _⟩
            refine ⟨?_, ?_, ?_, ?_⟩ <;> (rw [World.cell?_alloc_new]; rfl)
          case rest =>
            obtain ⟨g22, rfl, rfl, y22, l22, ex⟩ := hcut
            skip
            replace Y13 := Lib.hid (Y13.out.ext l13 ex)
            replace Y14 := Lib.hid (Y14.out.ext l14 ex)
            replace Y15 := Lib.hid (Y15.out.ext l15 ex)
            replace Y16 := Lib.hid (Y16.out.ext l16 ex)
            replace Y18 := Lib.hid (Y18.out.ext l18 ex)
            replace Y20 := Lib.hid (Y20.out.ext l20 ex)
            replace l13 := Nat.lt_of_lt_of_le l13 ex.size
            replace l14 := Nat.lt_of_lt_of_le l14 ex.size
            replace l15 := Nat.lt_of_lt_of_le l15 ex.size
            replace l16 := Nat.lt_of_lt_of_le l16 ex.size
            replace l18 := Nat.lt_of_lt_of_le l18 ex.size
            replace l20 := Nat.lt_of_lt_of_le l20 ex.size
            have Y22 := Lib.hid y22; clear y22
            replace W5 : Hid (Ext W4 _) := Lib.hid (W5.out.trans ex); replace lW := Nat.le_trans lW ex.size; clear ex
            go_upto_region 9 with fail
            go_cut [24, 25] from 129 to 135 (fun sp se wx => SCut wc (inv w h a) sp se wx)
            case first =>
              obtain ⟨q130, q131, q132, q133⟩ := Y13.out
              go_wp2_with fail
              refine (inverseS_tt w h a _ HSZ.out FA.out).mono ?_
              rintro e v ⟨rfl, hb⟩
              have HBX := Lib.hid hb; clear hb
              go_wp2_with fail
              go_meet
              have z := HBX.out.size
              refine ⟨v.heap.size, rfl, rfl, ?_, by simp, al HBX.out _⟩
              refine ⟨?_, ?_, ?_, ?_⟩ <;> (rw [World.cell?_alloc_new]; rfl)
            case rest =>
              obtain ⟨g24, rfl, rfl, y24, l24, ex⟩ := hcut
              skip
              replace Y13 := Lib.hid (Y13.out.ext l13 ex)
              replace Y14 := Lib.hid (Y14.out.ext l14 ex)
              replace Y15 := Lib.hid (Y15.out.ext l15 ex)
              replace Y16 := Lib.hid (Y16.out.ext l16 ex)
              replace Y18 := Lib.hid (Y18.out.ext l18 ex)
              replace Y20 := Lib.hid (Y20.out.ext l20 ex)
              replace Y22 := Lib.hid (Y22.out.ext l22 ex)
              replace l13 := Nat.lt_of_lt_of_le l13 ex.size
              replace l14 := Nat.lt_of_lt_of_le l14 ex.size
              replace l15 := Nat.lt_of_lt_of_le l15 ex.size
              replace l16 := Nat.lt_of_lt_of_le l16 ex.size
              replace l18 := Nat.lt_of_lt_of_le l18 ex.size
              replace l20 := Nat.lt_of_lt_of_le l20 ex.size
              replace l22 := Nat.lt_of_lt_of_le l22 ex.size
              have Y24 := Lib.hid y24; clear y24
              replace W5 : Hid (Ext W4 _) := Lib.hid (W5.out.trans ex); replace lW := Nat.le_trans lW ex.size; clear ex
              go_upto_region 10 with fail
              go_cut [26, 27] from 136 to 143 (fun sp se wx => SCut wc (aft w h (inv w h a) a) sp se wx)
              case first =>
                obtain ⟨q240, q241, q242, q243⟩ := Y24.out
                obtain ⟨q130, q131, q132, q133⟩ := Y13.out
                go_wp2_with fail
                refine (after_ttt w h (inv w h a) a _ HSZ.out HI.out FA.out).mono ?_
                rintro e v ⟨rfl, hb⟩
                have HBX := Lib.hid hb; clear hb
                go_wp2_with fail
                go_meet
                have z := HBX.out.size
                refine ⟨v.heap.size, rfl, rfl, ?_, by simp, al HBX.out _⟩
                refine ⟨?_, ?_, ?_, ?_⟩ <;> (rw [World.cell?_alloc_new]; rfl)
              case rest =>
                obtain ⟨g26, rfl, rfl, y26, l26, ex⟩ := hcut
                skip
                replace Y13 := Lib.hid (Y13.out.ext l13 ex)
                replace Y14 := Lib.hid (Y14.out.ext l14 ex)
                replace Y15 := Lib.hid (Y15.out.ext l15 ex)
                replace Y16 := Lib.hid (Y16.out.ext l16 ex)
                replace Y18 := Lib.hid (Y18.out.ext l18 ex)
                replace Y20 := Lib.hid (Y20.out.ext l20 ex)
                replace Y22 := Lib.hid (Y22.out.ext l22 ex)
                replace Y24 := Lib.hid (Y24.out.ext l24 ex)
                replace l13 := Nat.lt_of_lt_of_le l13 ex.size
                replace l14 := Nat.lt_of_lt_of_le l14 ex.size
                replace l15 := Nat.lt_of_lt_of_le l15 ex.size
                replace l16 := Nat.lt_of_lt_of_le l16 ex.size
                replace l18 := Nat.lt_of_lt_of_le l18 ex.size
                replace l20 := Nat.lt_of_lt_of_le l20 ex.size
                replace l22 := Nat.lt_of_lt_of_le l22 ex.size
                replace l24 := Nat.lt_of_lt_of_le l24 ex.size
                have Y26 := Lib.hid y26; clear y26
                replace W5 : Hid (Ext W4 _) := Lib.hid (W5.out.trans ex); replace lW := Nat.le_trans lW ex.size; clear ex
                go_upto_region 11 with fail
                go_cut [28, 29] from 144 to 151 (fun sp se wx => SCut wc (aft w h a (inv w h a)) sp se wx)
                case first =>
                  obtain ⟨q130, q131, q132, q133⟩ := Y13.out
                  obtain ⟨q240, q241, q242, q243⟩ := Y24.out
                  go_wp2_with fail
                  refine (after_ttt w h a (inv w h a) _ HSZ.out FA.out HI.out).mono ?_
                  rintro e v ⟨rfl, hb⟩
                  have HBX := Lib.hid hb; clear hb
                  go_wp2_with fail
                  go_meet
                  have z := HBX.out.size
                  refine ⟨v.heap.size, rfl, rfl, ?_, by simp, al HBX.out _⟩
                  refine ⟨?_, ?_, ?_, ?_⟩ <;> (rw [World.cell?_alloc_new]; rfl)
                case rest =>
                  obtain ⟨g28, rfl, rfl, y28, l28, ex⟩ := hcut
                  skip
                  replace Y13 := Lib.hid (Y13.out.ext l13 ex)
                  replace Y14 := Lib.hid (Y14.out.ext l14 ex)
                  replace Y15 := Lib.hid (Y15.out.ext l15 ex)
                  replace Y16 := Lib.hid (Y16.out.ext l16 ex)
                  replace Y18 := Lib.hid (Y18.out.ext l18 ex)
                  replace Y20 := Lib.hid (Y20.out.ext l20 ex)
                  replace Y22 := Lib.hid (Y22.out.ext l22 ex)
                  replace Y24 := Lib.hid (Y24.out.ext l24 ex)
                  replace Y26 := Lib.hid (Y26.out.ext l26 ex)
                  replace l13 := Nat.lt_of_lt_of_le l13 ex.size
                  replace l14 := Nat.lt_of_lt_of_le l14 ex.size
                  replace l15 := Nat.lt_of_lt_of_le l15 ex.size
                  replace l16 := Nat.lt_of_lt_of_le l16 ex.size
                  replace l18 := Nat.lt_of_lt_of_le l18 ex.size
                  replace l20 := Nat.lt_of_lt_of_le l20 ex.size
                  replace l22 := Nat.lt_of_lt_of_le l22 ex.size
                  replace l24 := Nat.lt_of_lt_of_le l24 ex.size
                  replace l26 := Nat.lt_of_lt_of_le l26 ex.size
                  have Y28 := Lib.hid y28; clear y28
                  replace W5 : Hid (Ext W4 _) := Lib.hid (W5.out.trans ex); replace lW := Nat.le_trans lW ex.size; clear ex
                  obtain ⟨r180, r181, r182, r183⟩ := Y18.out
                  obtain ⟨r220, r221, r222, r223⟩ := Y22.out
                  obtain ⟨r260, r261, r262, r263⟩ := Y26.out
                  obtain ⟨r280, r281, r282, r283⟩ := Y28.out
                  rw [aft_assoc FA.out FB.out FD.out] at r180 r181 r182 r183
                  rw [inv_aft HSZ.out FA.out] at r260 r261 r262 r263
                  rw [aft_inv HSZ.out FA.out] at r280 r281 r282 r283
                  simp only [Mv.one] at r260 r261 r262 r263 r280 r281 r282 r283
                  go_wp2_with fail
                  clear r180 r181 r182 r183 r220 r221 r222 r223 r260 r261 r262 r263 r280 r281 r282 r283
                  obtain ⟨yb0, yb1, yb2, yb3⟩ := Y14.out
                  have lw4 : W.heap.size < W4.heap.size := by omega
                  obtain ⟨sk0, sk1, sk2⟩ := HS.out
                  replace sk0 := keepAt W5.out lw4 sk0; replace sk1 := keepAt W5.out lw4 sk1; replace sk2 := keepAt W5.out lw4 sk2
                  have lwc : W.heap.size < wc.heap.size := Nat.lt_of_lt_of_le lw4 W5.out.size
                  go_upto_region 14 with fail
                  go_cut [30, 17] from 193 to 199 (fun sp se wx => TCut wc w h (apl w.toNat h.toNat b l n) n sp se wx)
                  case first =>
                    refine wp_region_noPanic ?_
                    refine wp_pool 8 [some 194, some 195, some 196, some 197, some 193, some 198, some 199, some 30] [(6, 4)] [7] [(fun (v : Value) (_ : World) => v = .agg #[.int .i64 b.dx, .int .i64 b.dy, .int .i64 b.t, .bool b.f]), (fun (v : Value) (_ : World) => v = .agg #[.int .i64 w, .int .i64 h, .slice A n c]), (fun (v : Value) (X : World) => ∃ A' n' c', v = .agg #[.int .i64 w, .int .i64 h, .slice A' n' c'] ∧ Il X (.slice A' n' c') l), (fun (v : Value) (X : World) => ∃ A', v = .tuple #[.agg #[.int .i64 w, .int .i64 h, .slice A' n n], .int .i64 0] ∧ Il X (.slice A' n n) (apl w.toNat h.toNat b l n)), (fun (v : Value) (X : World) => ∃ A', v = .tuple #[.agg #[.int .i64 w, .int .i64 h, .slice A' n n], .int .i64 0] ∧ Il X (.slice A' n n) (apl w.toNat h.toNat b l n)), (fun (v : Value) (X : World) => ∃ A', v = .agg #[.int .i64 w, .int .i64 h, .slice A' n n] ∧ Il X (.slice A' n n) (apl w.toNat h.toNat b l n)), (fun (v : Value) (_ : World) => v = .int .i64 0), (fun (v : Value) (X : World) => ∃ g, v = .pointer (some ⟨g, 0, none⟩) ∧ wc.heap.size ≤ g ∧ TB X g)] [noF, noF, noF, tupF, tupF, aggF, noF, ptrF] (by kernel_rfl) (by kernel_rfl) (by kernel_rfl) (by kernel_rfl) (by kernel_rfl) (by kernel_rfl) (by kernel_rfl) (by kernel_rfl) (fun _ _ _ _ h => h) ⟨Stays.pure _, Stays.pure _, (fun _ _ _ e ⟨A', n', c', h1, h2⟩ => ⟨A', n', c', h1, h2.ext e⟩), (fun _ _ _ e ⟨A', h1, h2⟩ => ⟨A', h1, h2.ext e⟩), (fun _ _ _ e ⟨A', h1, h2⟩ => ⟨A', h1, h2.ext e⟩), (fun _ _ _ e ⟨A', h1, h2⟩ => ⟨A', h1, h2.ext e⟩), Stays.pure _, (fun _ _ _ e ⟨g, h1, h2, h3⟩ => ⟨g, h1, h2, h3.ext e⟩), True.intro⟩ ?steps ?done
                    case steps =>
                      simp only [List.take_succ_cons, List.take_zero]
                      refine Steps.cons (fun (v : Value) (_ : World) => v = .agg #[.int .i64 b.dx, .int .i64 b.dy, .int .i64 b.t, .bool b.f]) [] rfl (by kernel_rfl) rfl (by kernel_rfl) (fun y X ex0 hf K hK => ?_) ?_
                      · clear hf
                        have ex := (Ext.drw (Ext.refl _)).trans ex0
                        refine Box.mk ?_
                        simp only [fill, Act.put, Nat.reduceAdd, List.setIfInBounds_toArray, List.set_cons_zero, List.set_cons_succ] at hK ⊢
                        have q0 := keepAt ex (by omega) yb0
                        have q1 := keepAt ex (by omega) yb1
                        have q2 := keepAt ex (by omega) yb2
                        have q3 := keepAt ex (by omega) yb3
                        go_simp
                        exact hK.out _ _ rfl (Ext.refl _) (fun b hb => by cases hb)
                      refine Steps.cons (fun (v : Value) (_ : World) => v = .agg #[.int .i64 w, .int .i64 h, .slice A n c]) [] rfl (by kernel_rfl) rfl (by kernel_rfl) (fun y X ex0 hf K hK => ?_) ?_
                      · clear hf
                        have ex := (Ext.drw (Ext.refl _)).trans ex0
                        refine Box.mk ?_
                        simp only [fill, Act.put, Nat.reduceAdd, List.setIfInBounds_toArray, List.set_cons_zero, List.set_cons_succ] at hK ⊢
                        have q0 := keepAt ex (by omega) sk0
                        have q1 := keepAt ex (by omega) sk1
                        have q2 := keepAt ex (by omega) sk2
                        go_simp
                        exact hK.out _ _ rfl (Ext.refl _) (fun b hb => by cases hb)
                      refine Steps.cons (fun (v : Value) (X : World) => ∃ A' n' c', v = .agg #[.int .i64 w, .int .i64 h, .slice A' n' c'] ∧ Il X (.slice A' n' c') l) [1] rfl (by kernel_rfl) rfl (by kernel_rfl) (fun y X ex0 hf K hK => ?_) ?_
                      · have h1 : ((fun (v : Value) (_ : World) => v = .agg #[.int .i64 w, .int .i64 h, .slice A n c])) (y 1) X := hf.1
                        clear hf
                        have ex := (Ext.drw (Ext.refl _)).trans ex0
                        refine Box.mk ?_
                        simp only [fill, Act.put, Nat.reduceAdd, List.setIfInBounds_toArray, List.set_cons_zero, List.set_cons_succ, h1] at hK ⊢
                        go_simp
                        refine (stamps_any w h A n c l _ (HL.out.ext (BB.out.trans (W5.out.trans ex)))).mono ?_
                        rintro e V ⟨A', n', c', rfl, hil, hfr, hb⟩
                        try go_wp2_with fail
                        exact hK.out _ _ ⟨A', n', c', rfl, HSH.out ▸ hil⟩ hb (fun b hb => by cases hb)
                      refine Steps.cons (fun (v : Value) (X : World) => ∃ A', v = .tuple #[.agg #[.int .i64 w, .int .i64 h, .slice A' n n], .int .i64 0] ∧ Il X (.slice A' n n) (apl w.toNat h.toNat b l n)) [0, 2] rfl (by kernel_rfl) rfl (by kernel_rfl) (fun y X ex0 hf K hK => ?_) ?_
                      · have h0 : ((fun (v : Value) (_ : World) => v = .agg #[.int .i64 b.dx, .int .i64 b.dy, .int .i64 b.t, .bool b.f])) (y 0) X := hf.1
                        have hh2 : ((fun (v : Value) (X : World) => ∃ A' n' c', v = .agg #[.int .i64 w, .int .i64 h, .slice A' n' c'] ∧ Il X (.slice A' n' c') l)) (y 2) X := hf.2.1
                        refine Exists.elim hh2 (fun A2 hx2_0 => ?_)
                        refine Exists.elim hx2_0 (fun n2 hx2_1 => ?_)
                        refine Exists.elim hx2_1 (fun c2 hx2_2 => ?_)
                        have h2 := hx2_2.1
                        have il2 := hx2_2.2
                        clear hh2 hx2_0 hx2_1 hx2_2
                        clear hf
                        have ex := (Ext.drw (Ext.refl _)).trans ex0
                        refine Box.mk ?_
                        simp only [fill, Act.put, Nat.reduceAdd, List.setIfInBounds_toArray, List.set_cons_zero, List.set_cons_succ, h0, h2] at hK ⊢
                        have hn2 := il2.len
                        rw [← HN0.out] at hn2
                        subst hn2
                        go_simp
                        refine (apply_in w h b A2 n2 c2 l _ il2 HV.out FB.out).mono ?_
                        rintro e V ⟨A', rfl, hil, hfr, hb⟩
                        try go_wp2_with fail
                        exact hK.out _ _ ⟨A', rfl, hil⟩ hb (New.slc (hil.new hfr (by rw [HE1.out]; exact hpos)))
                      refine Steps.cons (fun (v : Value) (X : World) => ∃ A', v = .tuple #[.agg #[.int .i64 w, .int .i64 h, .slice A' n n], .int .i64 0] ∧ Il X (.slice A' n n) (apl w.toNat h.toNat b l n)) [3] rfl (by kernel_rfl) rfl (by kernel_rfl) (fun y X ex0 hf K hK => ?_) ?_
                      · have hh3 : ((fun (v : Value) (X : World) => ∃ A', v = .tuple #[.agg #[.int .i64 w, .int .i64 h, .slice A' n n], .int .i64 0] ∧ Il X (.slice A' n n) (apl w.toNat h.toNat b l n))) (y 3) X := hf.1
                        refine Exists.elim hh3 (fun A3 hx3_0 => ?_)
                        have h3 := hx3_0.1
                        have il3 := hx3_0.2
                        clear hh3 hx3_0
                        clear hf
                        have ex := (Ext.drw (Ext.refl _)).trans ex0
                        refine Box.mk ?_
                        simp only [fill, Act.put, Nat.reduceAdd, List.setIfInBounds_toArray, List.set_cons_zero, List.set_cons_succ, h3] at hK ⊢
                        go_simp
                        exact hK.out _ _ ⟨A3, rfl, il3⟩ (Ext.refl _) (New.from 3 (by decide) (by decide) (by decide) (fun b hb => by show b ∈ tupF (y 3); rw [h3]; exact hb))
                      refine Steps.cons (fun (v : Value) (X : World) => ∃ A', v = .agg #[.int .i64 w, .int .i64 h, .slice A' n n] ∧ Il X (.slice A' n n) (apl w.toNat h.toNat b l n)) [4] rfl (by kernel_rfl) rfl (by kernel_rfl) (fun y X ex0 hf K hK => ?_) ?_
                      · have hh4 : ((fun (v : Value) (X : World) => ∃ A', v = .tuple #[.agg #[.int .i64 w, .int .i64 h, .slice A' n n], .int .i64 0] ∧ Il X (.slice A' n n) (apl w.toNat h.toNat b l n))) (y 4) X := hf.1
                        refine Exists.elim hh4 (fun A4 hx4_0 => ?_)
                        have h4 := hx4_0.1
                        have il4 := hx4_0.2
                        clear hh4 hx4_0
                        clear hf
                        have ex := (Ext.drw (Ext.refl _)).trans ex0
                        refine Box.mk ?_
                        simp only [fill, Act.put, Nat.reduceAdd, List.setIfInBounds_toArray, List.set_cons_zero, List.set_cons_succ, h4] at hK ⊢
                        go_simp
                        exact hK.out _ _ ⟨A4, rfl, il4⟩ (Ext.refl _) (New.from 4 (by decide) (by decide) (by decide) (fun b hb => by show b ∈ tupF (y 4); rw [h4]; exact hb))
                      refine Steps.flw (fun (v : Value) (_ : World) => v = .int .i64 0) [4] rfl (by kernel_rfl) (by kernel_rfl) (fun _ => rfl) (fun y X ex0 hf => ?_) ?_
                      · have hh4 : ((fun (v : Value) (X : World) => ∃ A', v = .tuple #[.agg #[.int .i64 w, .int .i64 h, .slice A' n n], .int .i64 0] ∧ Il X (.slice A' n n) (apl w.toNat h.toNat b l n))) (y 4) X := hf.1
                        refine Exists.elim hh4 (fun A4 hx4_0 => ?_)
                        have h4 := hx4_0.1
                        have il4 := hx4_0.2
                        clear hh4 hx4_0
                        clear hf
                        simp only [fill, Act.put, Nat.reduceAdd, List.setIfInBounds_toArray, List.set_cons_zero, List.set_cons_succ, h4]
                        exact ⟨.int .i64 0, ⟨by rfl, fun w => by go_simp⟩, rfl⟩
                      refine Steps.cons (fun (v : Value) (X : World) => ∃ g, v = .pointer (some ⟨g, 0, none⟩) ∧ wc.heap.size ≤ g ∧ TB X g) [] rfl (by kernel_rfl) rfl (by kernel_rfl) (fun y X ex0 hf K hK => ?_) ?_
                      · clear hf
                        have ex := (Ext.drw (Ext.refl _)).trans ex0
                        refine Box.mk ?_
                        simp only [fill, Act.put, Nat.reduceAdd, List.setIfInBounds_toArray, List.set_cons_zero, List.set_cons_succ] at hK ⊢
                        go_simp
                        exact hK.out _ _ ⟨X.heap.size, rfl, ex.size, _, _, _, _, heap_alloc_new X (.cells #[.int .i64 0, .int .i64 0, .slice none 0 0] 27)⟩ (Ext.alc (Ext.refl X) (.cells #[.int .i64 0, .int .i64 0, .slice none 0 0] 27)) (New.ptr (Nat.le_refl _) (by simp))
                      exact Steps.nil
                    case done =>
                      intro y X ex hf hlt hsep
                      have h0 : ((fun (v : Value) (_ : World) => v = .agg #[.int .i64 b.dx, .int .i64 b.dy, .int .i64 b.t, .bool b.f])) (y 0) X := hf.1
                      have h1 : ((fun (v : Value) (_ : World) => v = .agg #[.int .i64 w, .int .i64 h, .slice A n c])) (y 1) X := hf.2.1
                      have hh2 : ((fun (v : Value) (X : World) => ∃ A' n' c', v = .agg #[.int .i64 w, .int .i64 h, .slice A' n' c'] ∧ Il X (.slice A' n' c') l)) (y 2) X := hf.2.2.1
                      refine Exists.elim hh2 (fun A2 hx2_0 => ?_)
                      refine Exists.elim hx2_0 (fun n2 hx2_1 => ?_)
                      refine Exists.elim hx2_1 (fun c2 hx2_2 => ?_)
                      have h2 := hx2_2.1
                      have il2 := hx2_2.2
                      clear hh2 hx2_0 hx2_1 hx2_2
                      have hh3 : ((fun (v : Value) (X : World) => ∃ A', v = .tuple #[.agg #[.int .i64 w, .int .i64 h, .slice A' n n], .int .i64 0] ∧ Il X (.slice A' n n) (apl w.toNat h.toNat b l n))) (y 3) X := hf.2.2.2.1
                      refine Exists.elim hh3 (fun A3 hx3_0 => ?_)
                      have h3 := hx3_0.1
                      have il3 := hx3_0.2
                      clear hh3 hx3_0
                      have hh4 : ((fun (v : Value) (X : World) => ∃ A', v = .tuple #[.agg #[.int .i64 w, .int .i64 h, .slice A' n n], .int .i64 0] ∧ Il X (.slice A' n n) (apl w.toNat h.toNat b l n))) (y 4) X := hf.2.2.2.2.1
                      refine Exists.elim hh4 (fun A4 hx4_0 => ?_)
                      have h4 := hx4_0.1
                      have il4 := hx4_0.2
                      clear hh4 hx4_0
                      have hh5 : ((fun (v : Value) (X : World) => ∃ A', v = .agg #[.int .i64 w, .int .i64 h, .slice A' n n] ∧ Il X (.slice A' n n) (apl w.toNat h.toNat b l n))) (y 5) X := hf.2.2.2.2.2.1
                      refine Exists.elim hh5 (fun A5 hx5_0 => ?_)
                      have h5 := hx5_0.1
                      have il5 := hx5_0.2
                      clear hh5 hx5_0
                      have h6 : ((fun (v : Value) (_ : World) => v = .int .i64 0)) (y 6) X := hf.2.2.2.2.2.2.1
                      have hh7 : ((fun (v : Value) (X : World) => ∃ g, v = .pointer (some ⟨g, 0, none⟩) ∧ wc.heap.size ≤ g ∧ TB X g)) (y 7) X := hf.2.2.2.2.2.2.2.1
                      refine Exists.elim hh7 (fun g7 hx7_0 => ?_)
                      have h7 := hx7_0.1
                      have z7 := hx7_0.2.1
                      have q7 := hx7_0.2.2
                      clear hh7 hx7_0
                      clear hf
                      have hs57 := sep_slc (f := aggF) (A := A5) (n := n) (c := n) (hsep 5 7 (by decide) (by decide) (by decide) (by decide)) (by rw [h5]; rfl) h7
                      clear hsep hlt
                      refine Box.mk ?_
                      simp only [List.drop_succ_cons, List.drop_zero, fill, Act.put, Nat.reduceAdd, List.setIfInBounds_toArray, List.set_cons_zero, List.set_cons_succ, h0, h1, h2, h3, h4, h5, h6, h7]
                      clear h0 h1 h2 h3 h4 h5 h6 h7
                      have xx := ex.size
                      have ap := il5.apart hs57
                      obtain ⟨⟨_, _, _, k0, k1, k2⟩, k4⟩ := q7.facts
                      have Q7 := Lib.hid q7; have AP := Lib.hid ap; have EX := Lib.hid ex; clear q7 ap ex il2 il3 il4 il5 hs57
                      go_wp2_with fail
                      refine NoPanic.normal ?_
                      go_wp2_with fail
                      go_meet
                      have l7 := Q7.out.lt
                      exact ⟨g7, A5, n, rfl, rfl, Q7.out.at3 _ _ _, AP.out.set.set.set.il, by simp [World.setCell]; omega, ((EX.out.sc z7).sc z7).sc z7⟩
                  case rest =>
                    obtain ⟨g30, A30, c30, rfl, rfl, t30, i30, k30, ex⟩ := hcut
                    clear yb0 yb1 yb2 yb3 Y14 Y15 Y18 Y20 Y22 Y24 Y26 Y28
                    replace Y13 := Lib.hid (Y13.out.ext l13 ex)
                    replace Y16 := Lib.hid (Y16.out.ext l16 ex)
                    replace l13 := Nat.lt_of_lt_of_le l13 ex.size
                    replace l16 := Nat.lt_of_lt_of_le l16 ex.size
                    replace W5 : Hid (Ext W4 _) := Lib.hid (W5.out.trans ex); replace lW := Nat.le_trans lW ex.size
                    replace sk0 := keepAt ex lwc sk0; replace sk1 := keepAt ex lwc sk1; replace sk2 := keepAt ex lwc sk2; replace lwc := Nat.lt_of_lt_of_le lwc ex.size
                    have T30 := Lib.hid t30; have I30 := Lib.hid i30; clear t30 i30 ex
                    go_upto_region 15 with fail
                    go_cut [31, 19] from 200 to 205 (fun sp se wx => TCut wc w h (apl w.toNat h.toNat a (apl w.toNat h.toNat b l n) n) n sp se wx)
                    case first =>
                      obtain ⟨ya0, ya1, ya2, ya3⟩ := Y13.out
                      obtain ⟨tb0, tb1, tb2⟩ := T30.out
                      go_wp2_with fail
                      refine (apply_in w h a A30 n c30 (apl w.toNat h.toNat b l n) _ I30.out HV1.out FA.out).mono ?_
                      rintro e v ⟨A', rfl, hil, hfr, hb⟩
                      have HIL := Lib.hid hil; have HBX := Lib.hid hb; clear hil hfr hb
                      go_wp2_with fail
                      go_meet
                      refine ⟨v.heap.size, A', n, rfl, rfl, ?_, HIL.out.ext (Ext.alc (Ext.refl _) _), by simp, al HBX.out _⟩
                      refine ⟨?_, ?_, ?_⟩ <;> (rw [World.cell?_alloc_new]; rfl)
                    case rest =>
                      obtain ⟨g31, A31, c31, rfl, rfl, t31, i31, k31, ex⟩ := hcut
                      clear Y13 T30 I30
                      replace Y16 := Lib.hid (Y16.out.ext l16 ex)
                      replace l16 := Nat.lt_of_lt_of_le l16 ex.size
                      replace W5 : Hid (Ext W4 _) := Lib.hid (W5.out.trans ex); replace lW := Nat.le_trans lW ex.size
                      replace sk0 := keepAt ex lwc sk0; replace sk1 := keepAt ex lwc sk1; replace sk2 := keepAt ex lwc sk2; replace lwc := Nat.lt_of_lt_of_le lwc ex.size
                      have T31 := Lib.hid t31; have I31 := Lib.hid i31; clear t31 i31 ex
                      obtain ⟨yc0, yc1, yc2, yc3⟩ := Y16.out
                      go_upto_region 16 with fail
                      go_cut [32, 21] from 206 to 212 (fun sp se wx => TCut wc w h (apl w.toNat h.toNat (aft w h a b) l n) n sp se wx)
                      case first =>
                        refine wp_region_noPanic ?_
                        refine wp_pool 8 [some 207, some 208, some 209, some 210, some 206, some 211, some 212, some 32] [(6, 4)] [7] [(fun (v : Value) (_ : World) => v = .agg #[.int .i64 (aft w h a b).dx, .int .i64 (aft w h a b).dy, .int .i64 (aft w h a b).t, .bool (aft w h a b).f]), (fun (v : Value) (_ : World) => v = .agg #[.int .i64 w, .int .i64 h, .slice A n c]), (fun (v : Value) (X : World) => ∃ A' n' c', v = .agg #[.int .i64 w, .int .i64 h, .slice A' n' c'] ∧ Il X (.slice A' n' c') l), (fun (v : Value) (X : World) => ∃ A', v = .tuple #[.agg #[.int .i64 w, .int .i64 h, .slice A' n n], .int .i64 0] ∧ Il X (.slice A' n n) (apl w.toNat h.toNat (aft w h a b) l n)), (fun (v : Value) (X : World) => ∃ A', v = .tuple #[.agg #[.int .i64 w, .int .i64 h, .slice A' n n], .int .i64 0] ∧ Il X (.slice A' n n) (apl w.toNat h.toNat (aft w h a b) l n)), (fun (v : Value) (X : World) => ∃ A', v = .agg #[.int .i64 w, .int .i64 h, .slice A' n n] ∧ Il X (.slice A' n n) (apl w.toNat h.toNat (aft w h a b) l n)), (fun (v : Value) (_ : World) => v = .int .i64 0), (fun (v : Value) (X : World) => ∃ g, v = .pointer (some ⟨g, 0, none⟩) ∧ wc.heap.size ≤ g ∧ TB X g)] [noF, noF, noF, tupF, tupF, aggF, noF, ptrF] (by kernel_rfl) (by kernel_rfl) (by kernel_rfl) (by kernel_rfl) (by kernel_rfl) (by kernel_rfl) (by kernel_rfl) (by kernel_rfl) (fun _ _ _ _ h => h) ⟨Stays.pure _, Stays.pure _, (fun _ _ _ e ⟨A', n', c', h1, h2⟩ => ⟨A', n', c', h1, h2.ext e⟩), (fun _ _ _ e ⟨A', h1, h2⟩ => ⟨A', h1, h2.ext e⟩), (fun _ _ _ e ⟨A', h1, h2⟩ => ⟨A', h1, h2.ext e⟩), (fun _ _ _ e ⟨A', h1, h2⟩ => ⟨A', h1, h2.ext e⟩), Stays.pure _, (fun _ _ _ e ⟨g, h1, h2, h3⟩ => ⟨g, h1, h2, h3.ext e⟩), True.intro⟩ ?steps ?done
                        case steps =>
                          simp only [List.take_succ_cons, List.take_zero]
                          refine Steps.cons (fun (v : Value) (_ : World) => v = .agg #[.int .i64 (aft w h a b).dx, .int .i64 (aft w h a b).dy, .int .i64 (aft w h a b).t, .bool (aft w h a b).f]) [] rfl (by kernel_rfl) rfl (by kernel_rfl) (fun y X ex0 hf K hK => ?_) ?_
                          · clear hf
                            have ex := (Ext.drw (Ext.refl _)).trans ex0
                            refine Box.mk ?_
                            simp only [fill, Act.put, Nat.reduceAdd, List.setIfInBounds_toArray, List.set_cons_zero, List.set_cons_succ] at hK ⊢
                            have q0 := keepAt ex (by omega) yc0
                            have q1 := keepAt ex (by omega) yc1
                            have q2 := keepAt ex (by omega) yc2
                            have q3 := keepAt ex (by omega) yc3
                            go_simp
                            exact hK.out _ _ rfl (Ext.refl _) (fun b hb => by cases hb)
                          refine Steps.cons (fun (v : Value) (_ : World) => v = .agg #[.int .i64 w, .int .i64 h, .slice A n c]) [] rfl (by kernel_rfl) rfl (by kernel_rfl) (fun y X ex0 hf K hK => ?_) ?_
                          · clear hf
                            have ex := (Ext.drw (Ext.refl _)).trans ex0
                            refine Box.mk ?_
                            simp only [fill, Act.put, Nat.reduceAdd, List.setIfInBounds_toArray, List.set_cons_zero, List.set_cons_succ] at hK ⊢
                            have q0 := keepAt ex (by omega) sk0
                            have q1 := keepAt ex (by omega) sk1
                            have q2 := keepAt ex (by omega) sk2
                            go_simp
                            exact hK.out _ _ rfl (Ext.refl _) (fun b hb => by cases hb)
                          refine Steps.cons (fun (v : Value) (X : World) => ∃ A' n' c', v = .agg #[.int .i64 w, .int .i64 h, .slice A' n' c'] ∧ Il X (.slice A' n' c') l) [1] rfl (by kernel_rfl) rfl (by kernel_rfl) (fun y X ex0 hf K hK => ?_) ?_
                          · have h1 : ((fun (v : Value) (_ : World) => v = .agg #[.int .i64 w, .int .i64 h, .slice A n c])) (y 1) X := hf.1
                            clear hf
                            have ex := (Ext.drw (Ext.refl _)).trans ex0
                            refine Box.mk ?_
                            simp only [fill, Act.put, Nat.reduceAdd, List.setIfInBounds_toArray, List.set_cons_zero, List.set_cons_succ, h1] at hK ⊢
                            go_simp
                            refine (stamps_any w h A n c l _ (HL.out.ext (BB.out.trans (W5.out.trans ex)))).mono ?_
                            rintro e V ⟨A', n', c', rfl, hil, hfr, hb⟩
                            try go_wp2_with fail
                            exact hK.out _ _ ⟨A', n', c', rfl, HSH.out ▸ hil⟩ hb (fun b hb => by cases hb)
                          refine Steps.cons (fun (v : Value) (X : World) => ∃ A', v = .tuple #[.agg #[.int .i64 w, .int .i64 h, .slice A' n n], .int .i64 0] ∧ Il X (.slice A' n n) (apl w.toNat h.toNat (aft w h a b) l n)) [0, 2] rfl (by kernel_rfl) rfl (by kernel_rfl) (fun y X ex0 hf K hK => ?_) ?_
                          · have h0 : ((fun (v : Value) (_ : World) => v = .agg #[.int .i64 (aft w h a b).dx, .int .i64 (aft w h a b).dy, .int .i64 (aft w h a b).t, .bool (aft w h a b).f])) (y 0) X := hf.1
                            have hh2 : ((fun (v : Value) (X : World) => ∃ A' n' c', v = .agg #[.int .i64 w, .int .i64 h, .slice A' n' c'] ∧ Il X (.slice A' n' c') l)) (y 2) X := hf.2.1
                            refine Exists.elim hh2 (fun A2 hx2_0 => ?_)
                            refine Exists.elim hx2_0 (fun n2 hx2_1 => ?_)
                            refine Exists.elim hx2_1 (fun c2 hx2_2 => ?_)
                            have h2 := hx2_2.1
                            have il2 := hx2_2.2
                            clear hh2 hx2_0 hx2_1 hx2_2
                            clear hf
                            have ex := (Ext.drw (Ext.refl _)).trans ex0
                            refine Box.mk ?_
                            simp only [fill, Act.put, Nat.reduceAdd, List.setIfInBounds_toArray, List.set_cons_zero, List.set_cons_succ, h0, h2] at hK ⊢
                            have hn2 := il2.len
                            rw [← HN0.out] at hn2
                            subst hn2
                            go_simp
                            refine (apply_in w h (aft w h a b) A2 n2 c2 l _ il2 HV.out HAB.out).mono ?_
                            rintro e V ⟨A', rfl, hil, hfr, hb⟩
                            try go_wp2_with fail
                            exact hK.out _ _ ⟨A', rfl, hil⟩ hb (New.slc (hil.new hfr (by rw [HE3.out]; exact hpos)))
                          refine Steps.cons (fun (v : Value) (X : World) => ∃ A', v = .tuple #[.agg #[.int .i64 w, .int .i64 h, .slice A' n n], .int .i64 0] ∧ Il X (.slice A' n n) (apl w.toNat h.toNat (aft w h a b) l n)) [3] rfl (by kernel_rfl) rfl (by kernel_rfl) (fun y X ex0 hf K hK => ?_) ?_
                          · have hh3 : ((fun (v : Value) (X : World) => ∃ A', v = .tuple #[.agg #[.int .i64 w, .int .i64 h, .slice A' n n], .int .i64 0] ∧ Il X (.slice A' n n) (apl w.toNat h.toNat (aft w h a b) l n))) (y 3) X := hf.1
                            refine Exists.elim hh3 (fun A3 hx3_0 => ?_)
                            have h3 := hx3_0.1
                            have il3 := hx3_0.2
                            clear hh3 hx3_0
                            clear hf
                            have ex := (Ext.drw (Ext.refl _)).trans ex0
                            refine Box.mk ?_
                            simp only [fill, Act.put, Nat.reduceAdd, List.setIfInBounds_toArray, List.set_cons_zero, List.set_cons_succ, h3] at hK ⊢
                            go_simp
                            exact hK.out _ _ ⟨A3, rfl, il3⟩ (Ext.refl _) (New.from 3 (by decide) (by decide) (by decide) (fun b hb => by show b ∈ tupF (y 3); rw [h3]; exact hb))
                          refine Steps.cons (fun (v : Value) (X : World) => ∃ A', v = .agg #[.int .i64 w, .int .i64 h, .slice A' n n] ∧ Il X (.slice A' n n) (apl w.toNat h.toNat (aft w h a b) l n)) [4] rfl (by kernel_rfl) rfl (by kernel_rfl) (fun y X ex0 hf K hK => ?_) ?_
                          · have hh4 : ((fun (v : Value) (X : World) => ∃ A', v = .tuple #[.agg #[.int .i64 w, .int .i64 h, .slice A' n n], .int .i64 0] ∧ Il X (.slice A' n n) (apl w.toNat h.toNat (aft w h a b) l n))) (y 4) X := hf.1
                            refine Exists.elim hh4 (fun A4 hx4_0 => ?_)
                            have h4 := hx4_0.1
                            have il4 := hx4_0.2
                            clear hh4 hx4_0
                            clear hf
                            have ex := (Ext.drw (Ext.refl _)).trans ex0
                            refine Box.mk ?_
                            simp only [fill, Act.put, Nat.reduceAdd, List.setIfInBounds_toArray, List.set_cons_zero, List.set_cons_succ, h4] at hK ⊢
                            go_simp
                            exact hK.out _ _ ⟨A4, rfl, il4⟩ (Ext.refl _) (New.from 4 (by decide) (by decide) (by decide) (fun b hb => by show b ∈ tupF (y 4); rw [h4]; exact hb))
                          refine Steps.flw (fun (v : Value) (_ : World) => v = .int .i64 0) [4] rfl (by kernel_rfl) (by kernel_rfl) (fun _ => rfl) (fun y X ex0 hf => ?_) ?_
                          · have hh4 : ((fun (v : Value) (X : World) => ∃ A', v = .tuple #[.agg #[.int .i64 w, .int .i64 h, .slice A' n n], .int .i64 0] ∧ Il X (.slice A' n n) (apl w.toNat h.toNat (aft w h a b) l n))) (y 4) X := hf.1
                            refine Exists.elim hh4 (fun A4 hx4_0 => ?_)
                            have h4 := hx4_0.1
                            have il4 := hx4_0.2
                            clear hh4 hx4_0
                            clear hf
                            simp only [fill, Act.put, Nat.reduceAdd, List.setIfInBounds_toArray, List.set_cons_zero, List.set_cons_succ, h4]
                            exact ⟨.int .i64 0, ⟨by rfl, fun w => by go_simp⟩, rfl⟩
                          refine Steps.cons (fun (v : Value) (X : World) => ∃ g, v = .pointer (some ⟨g, 0, none⟩) ∧ wc.heap.size ≤ g ∧ TB X g) [] rfl (by kernel_rfl) rfl (by kernel_rfl) (fun y X ex0 hf K hK => ?_) ?_
                          · clear hf
                            have ex := (Ext.drw (Ext.refl _)).trans ex0
                            refine Box.mk ?_
                            simp only [fill, Act.put, Nat.reduceAdd, List.setIfInBounds_toArray, List.set_cons_zero, List.set_cons_succ] at hK ⊢
                            go_simp
                            exact hK.out _ _ ⟨X.heap.size, rfl, ex.size, _, _, _, _, heap_alloc_new X (.cells #[.int .i64 0, .int .i64 0, .slice none 0 0] 27)⟩ (Ext.alc (Ext.refl X) (.cells #[.int .i64 0, .int .i64 0, .slice none 0 0] 27)) (New.ptr (Nat.le_refl _) (by simp))
                          exact Steps.nil
                        case done =>
                          intro y X ex hf hlt hsep
                          have h0 : ((fun (v : Value) (_ : World) => v = .agg #[.int .i64 (aft w h a b).dx, .int .i64 (aft w h a b).dy, .int .i64 (aft w h a b).t, .bool (aft w h a b).f])) (y 0) X := hf.1
                          have h1 : ((fun (v : Value) (_ : World) => v = .agg #[.int .i64 w, .int .i64 h, .slice A n c])) (y 1) X := hf.2.1
                          have hh2 : ((fun (v : Value) (X : World) => ∃ A' n' c', v = .agg #[.int .i64 w, .int .i64 h, .slice A' n' c'] ∧ Il X (.slice A' n' c') l)) (y 2) X := hf.2.2.1
                          refine Exists.elim hh2 (fun A2 hx2_0 => ?_)
                          refine Exists.elim hx2_0 (fun n2 hx2_1 => ?_)
                          refine Exists.elim hx2_1 (fun c2 hx2_2 => ?_)
                          have h2 := hx2_2.1
                          have il2 := hx2_2.2
                          clear hh2 hx2_0 hx2_1 hx2_2
                          have hh3 : ((fun (v : Value) (X : World) => ∃ A', v = .tuple #[.agg #[.int .i64 w, .int .i64 h, .slice A' n n], .int .i64 0] ∧ Il X (.slice A' n n) (apl w.toNat h.toNat (aft w h a b) l n))) (y 3) X := hf.2.2.2.1
                          refine Exists.elim hh3 (fun A3 hx3_0 => ?_)
                          have h3 := hx3_0.1
                          have il3 := hx3_0.2
                          clear hh3 hx3_0
                          have hh4 : ((fun (v : Value) (X : World) => ∃ A', v = .tuple #[.agg #[.int .i64 w, .int .i64 h, .slice A' n n], .int .i64 0] ∧ Il X (.slice A' n n) (apl w.toNat h.toNat (aft w h a b) l n))) (y 4) X := hf.2.2.2.2.1
                          refine Exists.elim hh4 (fun A4 hx4_0 => ?_)
                          have h4 := hx4_0.1
                          have il4 := hx4_0.2
                          clear hh4 hx4_0
                          have hh5 : ((fun (v : Value) (X : World) => ∃ A', v = .agg #[.int .i64 w, .int .i64 h, .slice A' n n] ∧ Il X (.slice A' n n) (apl w.toNat h.toNat (aft w h a b) l n))) (y 5) X := hf.2.2.2.2.2.1
                          refine Exists.elim hh5 (fun A5 hx5_0 => ?_)
                          have h5 := hx5_0.1
                          have il5 := hx5_0.2
                          clear hh5 hx5_0
                          have h6 : ((fun (v : Value) (_ : World) => v = .int .i64 0)) (y 6) X := hf.2.2.2.2.2.2.1
                          have hh7 : ((fun (v : Value) (X : World) => ∃ g, v = .pointer (some ⟨g, 0, none⟩) ∧ wc.heap.size ≤ g ∧ TB X g)) (y 7) X := hf.2.2.2.2.2.2.2.1
                          refine Exists.elim hh7 (fun g7 hx7_0 => ?_)
                          have h7 := hx7_0.1
                          have z7 := hx7_0.2.1
                          have q7 := hx7_0.2.2
                          clear hh7 hx7_0
                          clear hf
                          have hs57 := sep_slc (f := aggF) (A := A5) (n := n) (c := n) (hsep 5 7 (by decide) (by decide) (by decide) (by decide)) (by rw [h5]; rfl) h7
                          clear hsep hlt
                          refine Box.mk ?_
                          simp only [List.drop_succ_cons, List.drop_zero, fill, Act.put, Nat.reduceAdd, List.setIfInBounds_toArray, List.set_cons_zero, List.set_cons_succ, h0, h1, h2, h3, h4, h5, h6, h7]
                          clear h0 h1 h2 h3 h4 h5 h6 h7
                          have xx := ex.size
                          have ap := il5.apart hs57
                          obtain ⟨⟨_, _, _, k0, k1, k2⟩, k4⟩ := q7.facts
                          have Q7 := Lib.hid q7; have AP := Lib.hid ap; have EX := Lib.hid ex; clear q7 ap ex il2 il3 il4 il5 hs57
                          go_wp2_with fail
                          refine NoPanic.normal ?_
                          go_wp2_with fail
                          go_meet
                          have l7 := Q7.out.lt
                          exact ⟨g7, A5, n, rfl, rfl, Q7.out.at3 _ _ _, AP.out.set.set.set.il, by simp [World.setCell]; omega, ((EX.out.sc z7).sc z7).sc z7⟩
                      case rest =>
                        obtain ⟨g32, A32, c32, rfl, rfl, t32, i32, k32, ex⟩ := hcut
                        clear Y16 yc0 yc1 yc2 yc3
                        replace W5 : Hid (Ext W4 _) := Lib.hid (W5.out.trans ex); replace lW := Nat.le_trans lW ex.size
                        replace sk0 := keepAt ex lwc sk0; replace sk1 := keepAt ex lwc sk1; replace sk2 := keepAt ex lwc sk2; replace lwc := Nat.lt_of_lt_of_le lwc ex.size
                        replace T31 := Lib.hid (Q3.ext T31.out k31 ex); replace I31 := Lib.hid (I31.out.ext ex); replace k31 := Nat.lt_of_lt_of_le k31 ex.size
                        have T32 := Lib.hid t32; have I32 := Lib.hid i32; clear t32 i32
                        go_wp2_with fail
                        refine wp_region_noPanic ?_
                        refine wp_pool 20 [some 213, some 214, some 215, some 216, some 217, some 218, some 219, some 220, some 221, some 222, some 223, some 224, some 225, some 226, some 227, some 228, some 229, some 230, some 231, some 232] [] [] [(fun (v : Value) (_ : World) => v = .int .i64 0), (fun (v : Value) (_ : World) => v = .bool true), (fun (v : Value) (_ : World) => v = .bool true), (fun (v : Value) (_ : World) => v = .int .i64 0), (fun (v : Value) (_ : World) => v = .bool true), (fun (v : Value) (_ : World) => v = .bool true), (fun (v : Value) (_ : World) => v = .bool true), (fun (v : Value) (_ : World) => v = .int .i64 0), (fun (v : Value) (_ : World) => v = .bool true), (fun (v : Value) (_ : World) => v = .bool true), (fun (v : Value) (_ : World) => v = .bool true), (fun (v : Value) (_ : World) => v = .agg #[.int .i64 w, .int .i64 h, .slice A31 n c31]), (fun (v : Value) (_ : World) => v = .agg #[.int .i64 w, .int .i64 h, .slice A31 n c31]), (fun (v : Value) (_ : World) => v = .agg #[.int .i64 w, .int .i64 h, .slice A32 n c32]), (fun (v : Value) (_ : World) => v = .agg #[.int .i64 w, .int .i64 h, .slice A32 n c32]), (fun (v : Value) (_ : World) => v = .bool true), (fun (v : Value) (_ : World) => v = .bool true), (fun (v : Value) (_ : World) => v = .bool true), (fun (v : Value) (_ : World) => v = .bool true), (fun (v : Value) (_ : World) => v = .bool true)] [noF, noF, noF, noF, noF, noF, noF, noF, noF, noF, noF, noF, noF, noF, noF, noF, noF, noF, noF, noF] (by kernel_rfl) (by kernel_rfl) (by kernel_rfl) (by kernel_rfl) (by kernel_rfl) (by kernel_rfl) (by kernel_rfl) (by kernel_rfl) (fun _ _ _ _ h => h) ⟨Stays.pure _, Stays.pure _, Stays.pure _, Stays.pure _, Stays.pure _, Stays.pure _, Stays.pure _, Stays.pure _, Stays.pure _, Stays.pure _, Stays.pure _, Stays.pure _, Stays.pure _, Stays.pure _, Stays.pure _, Stays.pure _, Stays.pure _, Stays.pure _, Stays.pure _, Stays.pure _, True.intro⟩ ?steps ?done
                        case steps =>
                          simp only [List.take_succ_cons, List.take_zero]
                          refine Steps.cons (fun (v : Value) (_ : World) => v = .int .i64 0) [] rfl (by kernel_rfl) rfl (by kernel_rfl) (fun y X ex0 hf K hK => ?_) ?_
                          · clear hf
                            have ex := (Ext.drw (Ext.refl _)).trans ex0
                            refine Box.mk ?_
                            simp only [fill, Act.put, Nat.reduceAdd, List.setIfInBounds_toArray, List.set_cons_zero, List.set_cons_succ] at hK ⊢
                            go_simp
                            exact hK.out _ _ rfl (Ext.refl _) (fun b hb => by cases hb)
                          refine Steps.cons (fun (v : Value) (_ : World) => v = .bool true) [0] rfl (by kernel_rfl) rfl (by kernel_rfl) (fun y X ex0 hf K hK => ?_) ?_
                          · have h0 : ((fun (v : Value) (_ : World) => v = .int .i64 0)) (y 0) X := hf.1
                            clear hf
                            have ex := (Ext.drw (Ext.refl _)).trans ex0
                            refine Box.mk ?_
                            simp only [fill, Act.put, Nat.reduceAdd, List.setIfInBounds_toArray, List.set_cons_zero, List.set_cons_succ, h0] at hK ⊢
                            go_simp
                            exact hK.out _ _ rfl (Ext.refl _) (fun b hb => by cases hb)
                          refine Steps.cons (fun (v : Value) (_ : World) => v = .bool true) [1] rfl (by kernel_rfl) rfl (by kernel_rfl) (fun y X ex0 hf K hK => ?_) ?_
                          · have h1 : ((fun (v : Value) (_ : World) => v = .bool true)) (y 1) X := hf.1
                            clear hf
                            have ex := (Ext.drw (Ext.refl _)).trans ex0
                            refine Box.mk ?_
                            simp only [fill, Act.put, Nat.reduceAdd, List.setIfInBounds_toArray, List.set_cons_zero, List.set_cons_succ, h1] at hK ⊢
                            go_simp
                            exact hK.out _ _ rfl (Ext.refl _) (fun b hb => by cases hb)
                          refine Steps.cons (fun (v : Value) (_ : World) => v = .int .i64 0) [2] rfl (by kernel_rfl) rfl (by kernel_rfl) (fun y X ex0 hf K hK => ?_) ?_
                          · have h2 : ((fun (v : Value) (_ : World) => v = .bool true)) (y 2) X := hf.1
                            clear hf
                            have ex := (Ext.drw (Ext.refl _)).trans ex0
                            refine Box.mk ?_
                            simp only [fill, Act.put, Nat.reduceAdd, List.setIfInBounds_toArray, List.set_cons_zero, List.set_cons_succ, h2] at hK ⊢
                            go_simp
                            exact hK.out _ _ rfl (Ext.refl _) (fun b hb => by cases hb)
                          refine Steps.cons (fun (v : Value) (_ : World) => v = .bool true) [3, 2] rfl (by kernel_rfl) rfl (by kernel_rfl) (fun y X ex0 hf K hK => ?_) ?_
                          · have h3 : ((fun (v : Value) (_ : World) => v = .int .i64 0)) (y 3) X := hf.1
                            have h2 : ((fun (v : Value) (_ : World) => v = .bool true)) (y 2) X := hf.2.1
                            clear hf
                            have ex := (Ext.drw (Ext.refl _)).trans ex0
                            refine Box.mk ?_
                            simp only [fill, Act.put, Nat.reduceAdd, List.setIfInBounds_toArray, List.set_cons_zero, List.set_cons_succ, h3, h2] at hK ⊢
                            go_simp
                            exact hK.out _ _ rfl (Ext.refl _) (fun b hb => by cases hb)
                          refine Steps.cons (fun (v : Value) (_ : World) => v = .bool true) [2, 4] rfl (by kernel_rfl) rfl (by kernel_rfl) (fun y X ex0 hf K hK => ?_) ?_
                          · have h2 : ((fun (v : Value) (_ : World) => v = .bool true)) (y 2) X := hf.1
                            have h4 : ((fun (v : Value) (_ : World) => v = .bool true)) (y 4) X := hf.2.1
                            clear hf
                            have ex := (Ext.drw (Ext.refl _)).trans ex0
                            refine Box.mk ?_
                            simp only [fill, Act.put, Nat.reduceAdd, List.setIfInBounds_toArray, List.set_cons_zero, List.set_cons_succ, h2, h4] at hK ⊢
                            go_simp
                            exact hK.out _ _ rfl (Ext.refl _) (fun b hb => by cases hb)
                          refine Steps.cons (fun (v : Value) (_ : World) => v = .bool true) [5, 2] rfl (by kernel_rfl) rfl (by kernel_rfl) (fun y X ex0 hf K hK => ?_) ?_
                          · have h5 : ((fun (v : Value) (_ : World) => v = .bool true)) (y 5) X := hf.1
                            have h2 : ((fun (v : Value) (_ : World) => v = .bool true)) (y 2) X := hf.2.1
                            clear hf
                            have ex := (Ext.drw (Ext.refl _)).trans ex0
                            refine Box.mk ?_
                            simp only [fill, Act.put, Nat.reduceAdd, List.setIfInBounds_toArray, List.set_cons_zero, List.set_cons_succ, h5, h2] at hK ⊢
                            go_simp
                            exact hK.out _ _ rfl (Ext.refl _) (fun b hb => by cases hb)
                          refine Steps.cons (fun (v : Value) (_ : World) => v = .int .i64 0) [6] rfl (by kernel_rfl) rfl (by kernel_rfl) (fun y X ex0 hf K hK => ?_) ?_
                          · have h6 : ((fun (v : Value) (_ : World) => v = .bool true)) (y 6) X := hf.1
                            clear hf
                            have ex := (Ext.drw (Ext.refl _)).trans ex0
                            refine Box.mk ?_
                            simp only [fill, Act.put, Nat.reduceAdd, List.setIfInBounds_toArray, List.set_cons_zero, List.set_cons_succ, h6] at hK ⊢
                            go_simp
                            exact hK.out _ _ rfl (Ext.refl _) (fun b hb => by cases hb)
                          refine Steps.cons (fun (v : Value) (_ : World) => v = .bool true) [7, 6] rfl (by kernel_rfl) rfl (by kernel_rfl) (fun y X ex0 hf K hK => ?_) ?_
                          · have h7 : ((fun (v : Value) (_ : World) => v = .int .i64 0)) (y 7) X := hf.1
                            have h6 : ((fun (v : Value) (_ : World) => v = .bool true)) (y 6) X := hf.2.1
                            clear hf
                            have ex := (Ext.drw (Ext.refl _)).trans ex0
                            refine Box.mk ?_
                            simp only [fill, Act.put, Nat.reduceAdd, List.setIfInBounds_toArray, List.set_cons_zero, List.set_cons_succ, h7, h6] at hK ⊢
                            go_simp
                            exact hK.out _ _ rfl (Ext.refl _) (fun b hb => by cases hb)
                          refine Steps.cons (fun (v : Value) (_ : World) => v = .bool true) [6, 8] rfl (by kernel_rfl) rfl (by kernel_rfl) (fun y X ex0 hf K hK => ?_) ?_
                          · have h6 : ((fun (v : Value) (_ : World) => v = .bool true)) (y 6) X := hf.1
                            have h8 : ((fun (v : Value) (_ : World) => v = .bool true)) (y 8) X := hf.2.1
                            clear hf
                            have ex := (Ext.drw (Ext.refl _)).trans ex0
                            refine Box.mk ?_
                            simp only [fill, Act.put, Nat.reduceAdd, List.setIfInBounds_toArray, List.set_cons_zero, List.set_cons_succ, h6, h8] at hK ⊢
                            go_simp
                            exact hK.out _ _ rfl (Ext.refl _) (fun b hb => by cases hb)
                          refine Steps.cons (fun (v : Value) (_ : World) => v = .bool true) [9, 6] rfl (by kernel_rfl) rfl (by kernel_rfl) (fun y X ex0 hf K hK => ?_) ?_
                          · have h9 : ((fun (v : Value) (_ : World) => v = .bool true)) (y 9) X := hf.1
                            have h6 : ((fun (v : Value) (_ : World) => v = .bool true)) (y 6) X := hf.2.1
                            clear hf
                            have ex := (Ext.drw (Ext.refl _)).trans ex0
                            refine Box.mk ?_
                            simp only [fill, Act.put, Nat.reduceAdd, List.setIfInBounds_toArray, List.set_cons_zero, List.set_cons_succ, h9, h6] at hK ⊢
                            go_simp
                            exact hK.out _ _ rfl (Ext.refl _) (fun b hb => by cases hb)
                          refine Steps.cons (fun (v : Value) (_ : World) => v = .agg #[.int .i64 w, .int .i64 h, .slice A31 n c31]) [10] rfl (by kernel_rfl) rfl (by kernel_rfl) (fun y X ex0 hf K hK => ?_) ?_
                          · have h10 : ((fun (v : Value) (_ : World) => v = .bool true)) (y 10) X := hf.1
                            clear hf
                            have ex := (Ext.drw (Ext.refl _)).trans ex0
                            refine Box.mk ?_
                            simp only [fill, Act.put, Nat.reduceAdd, List.setIfInBounds_toArray, List.set_cons_zero, List.set_cons_succ, h10] at hK ⊢
                            obtain ⟨q0, q1, q2⟩ := Q3.ext T31.out k31 ex
                            go_simp
                            exact hK.out _ _ rfl (Ext.refl _) (fun b hb => by cases hb)
                          refine Steps.cons (fun (v : Value) (_ : World) => v = .agg #[.int .i64 w, .int .i64 h, .slice A31 n c31]) [11, 10] rfl (by kernel_rfl) rfl (by kernel_rfl) (fun y X ex0 hf K hK => ?_) ?_
                          · have h11 : ((fun (v : Value) (_ : World) => v = .agg #[.int .i64 w, .int .i64 h, .slice A31 n c31])) (y 11) X := hf.1
                            have h10 : ((fun (v : Value) (_ : World) => v = .bool true)) (y 10) X := hf.2.1
                            clear hf
                            have ex := (Ext.drw (Ext.refl _)).trans ex0
                            refine Box.mk ?_
                            simp only [fill, Act.put, Nat.reduceAdd, List.setIfInBounds_toArray, List.set_cons_zero, List.set_cons_succ, h11, h10] at hK ⊢
                            go_simp
                            refine (own_any w h A31 n c31 _).mono ?_
                            rintro e V ⟨rfl, hb⟩
                            try go_wp2_with fail
                            exact hK.out _ _ rfl hb (fun b hb => by cases hb)
                          refine Steps.cons (fun (v : Value) (_ : World) => v = .agg #[.int .i64 w, .int .i64 h, .slice A32 n c32]) [10] rfl (by kernel_rfl) rfl (by kernel_rfl) (fun y X ex0 hf K hK => ?_) ?_
                          · have h10 : ((fun (v : Value) (_ : World) => v = .bool true)) (y 10) X := hf.1
                            clear hf
                            have ex := (Ext.drw (Ext.refl _)).trans ex0
                            refine Box.mk ?_
                            simp only [fill, Act.put, Nat.reduceAdd, List.setIfInBounds_toArray, List.set_cons_zero, List.set_cons_succ, h10] at hK ⊢
                            obtain ⟨q0, q1, q2⟩ := Q3.ext T32.out k32 ex
                            go_simp
                            exact hK.out _ _ rfl (Ext.refl _) (fun b hb => by cases hb)
                          refine Steps.cons (fun (v : Value) (_ : World) => v = .agg #[.int .i64 w, .int .i64 h, .slice A32 n c32]) [13, 12, 10] rfl (by kernel_rfl) rfl (by kernel_rfl) (fun y X ex0 hf K hK => ?_) ?_
                          · have h13 : ((fun (v : Value) (_ : World) => v = .agg #[.int .i64 w, .int .i64 h, .slice A32 n c32])) (y 13) X := hf.1
                            have h12 : ((fun (v : Value) (_ : World) => v = .agg #[.int .i64 w, .int .i64 h, .slice A31 n c31])) (y 12) X := hf.2.1
                            have h10 : ((fun (v : Value) (_ : World) => v = .bool true)) (y 10) X := hf.2.2.1
                            clear hf
                            have ex := (Ext.drw (Ext.refl _)).trans ex0
                            refine Box.mk ?_
                            simp only [fill, Act.put, Nat.reduceAdd, List.setIfInBounds_toArray, List.set_cons_zero, List.set_cons_succ, h13, h12, h10] at hK ⊢
                            go_simp
                            refine (own_any w h A32 n c32 _).mono ?_
                            rintro e V ⟨rfl, hb⟩
                            try go_wp2_with fail
                            exact hK.out _ _ rfl hb (fun b hb => by cases hb)
                          refine Steps.cons (fun (v : Value) (_ : World) => v = .bool true) [12, 14, 10] rfl (by kernel_rfl) rfl (by kernel_rfl) (fun y X ex0 hf K hK => ?_) ?_
                          · have h12 : ((fun (v : Value) (_ : World) => v = .agg #[.int .i64 w, .int .i64 h, .slice A31 n c31])) (y 12) X := hf.1
                            have h14 : ((fun (v : Value) (_ : World) => v = .agg #[.int .i64 w, .int .i64 h, .slice A32 n c32])) (y 14) X := hf.2.1
                            have h10 : ((fun (v : Value) (_ : World) => v = .bool true)) (y 10) X := hf.2.2.1
                            clear hf
                            have ex := (Ext.drw (Ext.refl _)).trans ex0
                            refine Box.mk ?_
                            simp only [fill, Act.put, Nat.reduceAdd, List.setIfInBounds_toArray, List.set_cons_zero, List.set_cons_succ, h12, h14, h10] at hK ⊢
                            go_simp
                            refine (same_eq w h A31 A32 n c31 n c32 _ _ _ (I31.out.ext ex) (I32.out.ext ex) (by omega) (by omega)).mono ?_
                            rintro e V ⟨rfl, hb⟩
                            try go_wp2_with fail
                            exact hK.out _ _ (congrArg Value.bool (decide_eq_true HEQ.out.symm)) hb (fun b hb => by cases hb)
                          refine Steps.cons (fun (v : Value) (_ : World) => v = .bool true) [10, 15] rfl (by kernel_rfl) rfl (by kernel_rfl) (fun y X ex0 hf K hK => ?_) ?_
                          · have h10 : ((fun (v : Value) (_ : World) => v = .bool true)) (y 10) X := hf.1
                            have h15 : ((fun (v : Value) (_ : World) => v = .bool true)) (y 15) X := hf.2.1
                            clear hf
                            have ex := (Ext.drw (Ext.refl _)).trans ex0
                            refine Box.mk ?_
                            simp only [fill, Act.put, Nat.reduceAdd, List.setIfInBounds_toArray, List.set_cons_zero, List.set_cons_succ, h10, h15] at hK ⊢
                            go_simp
                            exact hK.out _ _ rfl (Ext.refl _) (fun b hb => by cases hb)
                          refine Steps.cons (fun (v : Value) (_ : World) => v = .bool true) [16, 15] rfl (by kernel_rfl) rfl (by kernel_rfl) (fun y X ex0 hf K hK => ?_) ?_
                          · have h16 : ((fun (v : Value) (_ : World) => v = .bool true)) (y 16) X := hf.1
                            have h15 : ((fun (v : Value) (_ : World) => v = .bool true)) (y 15) X := hf.2.1
                            clear hf
                            have ex := (Ext.drw (Ext.refl _)).trans ex0
                            refine Box.mk ?_
                            simp only [fill, Act.put, Nat.reduceAdd, List.setIfInBounds_toArray, List.set_cons_zero, List.set_cons_succ, h16, h15] at hK ⊢
                            go_simp
                            exact hK.out _ _ rfl (Ext.refl _) (fun b hb => by cases hb)
                          refine Steps.cons (fun (v : Value) (_ : World) => v = .bool true) [17] rfl (by kernel_rfl) rfl (by kernel_rfl) (fun y X ex0 hf K hK => ?_) ?_
                          · have h17 : ((fun (v : Value) (_ : World) => v = .bool true)) (y 17) X := hf.1
                            clear hf
                            have ex := (Ext.drw (Ext.refl _)).trans ex0
                            refine Box.mk ?_
                            simp only [fill, Act.put, Nat.reduceAdd, List.setIfInBounds_toArray, List.set_cons_zero, List.set_cons_succ, h17] at hK ⊢
                            go_simp
                            refine (awake_any _).mono ?_
                            rintro e V ⟨rfl, hb⟩
                            try go_wp2_with fail
                            exact hK.out _ _ rfl hb (fun b hb => by cases hb)
                          refine Steps.cons (fun (v : Value) (_ : World) => v = .bool true) [17, 18] rfl (by kernel_rfl) rfl (by kernel_rfl) (fun y X ex0 hf K hK => ?_) ?_
                          · have h17 : ((fun (v : Value) (_ : World) => v = .bool true)) (y 17) X := hf.1
                            have h18 : ((fun (v : Value) (_ : World) => v = .bool true)) (y 18) X := hf.2.1
                            clear hf
                            have ex := (Ext.drw (Ext.refl _)).trans ex0
                            refine Box.mk ?_
                            simp only [fill, Act.put, Nat.reduceAdd, List.setIfInBounds_toArray, List.set_cons_zero, List.set_cons_succ, h17, h18] at hK ⊢
                            go_simp
                            exact hK.out _ _ rfl (Ext.refl _) (fun b hb => by cases hb)
                          exact Steps.nil
                        case done =>
                          intro y X ex hf hlt hsep
                          have h0 : ((fun (v : Value) (_ : World) => v = .int .i64 0)) (y 0) X := hf.1
                          have h1 : ((fun (v : Value) (_ : World) => v = .bool true)) (y 1) X := hf.2.1
                          have h2 : ((fun (v : Value) (_ : World) => v = .bool true)) (y 2) X := hf.2.2.1
                          have h3 : ((fun (v : Value) (_ : World) => v = .int .i64 0)) (y 3) X := hf.2.2.2.1
                          have h4 : ((fun (v : Value) (_ : World) => v = .bool true)) (y 4) X := hf.2.2.2.2.1
                          have h5 : ((fun (v : Value) (_ : World) => v = .bool true)) (y 5) X := hf.2.2.2.2.2.1
                          have h6 : ((fun (v : Value) (_ : World) => v = .bool true)) (y 6) X := hf.2.2.2.2.2.2.1
                          have h7 : ((fun (v : Value) (_ : World) => v = .int .i64 0)) (y 7) X := hf.2.2.2.2.2.2.2.1
                          have h8 : ((fun (v : Value) (_ : World) => v = .bool true)) (y 8) X := hf.2.2.2.2.2.2.2.2.1
                          have h9 : ((fun (v : Value) (_ : World) => v = .bool true)) (y 9) X := hf.2.2.2.2.2.2.2.2.2.1
                          have h10 : ((fun (v : Value) (_ : World) => v = .bool true)) (y 10) X := hf.2.2.2.2.2.2.2.2.2.2.1
                          have h11 : ((fun (v : Value) (_ : World) => v = .agg #[.int .i64 w, .int .i64 h, .slice A31 n c31])) (y 11) X := hf.2.2.2.2.2.2.2.2.2.2.2.1
                          have h12 : ((fun (v : Value) (_ : World) => v = .agg #[.int .i64 w, .int .i64 h, .slice A31 n c31])) (y 12) X := hf.2.2.2.2.2.2.2.2.2.2.2.2.1
                          have h13 : ((fun (v : Value) (_ : World) => v = .agg #[.int .i64 w, .int .i64 h, .slice A32 n c32])) (y 13) X := hf.2.2.2.2.2.2.2.2.2.2.2.2.2.1
                          have h14 : ((fun (v : Value) (_ : World) => v = .agg #[.int .i64 w, .int .i64 h, .slice A32 n c32])) (y 14) X := hf.2.2.2.2.2.2.2.2.2.2.2.2.2.2.1
                          have h15 : ((fun (v : Value) (_ : World) => v = .bool true)) (y 15) X := hf.2.2.2.2.2.2.2.2.2.2.2.2.2.2.2.1
                          have h16 : ((fun (v : Value) (_ : World) => v = .bool true)) (y 16) X := hf.2.2.2.2.2.2.2.2.2.2.2.2.2.2.2.2.1
                          have h17 : ((fun (v : Value) (_ : World) => v = .bool true)) (y 17) X := hf.2.2.2.2.2.2.2.2.2.2.2.2.2.2.2.2.2.1
                          have h18 : ((fun (v : Value) (_ : World) => v = .bool true)) (y 18) X := hf.2.2.2.2.2.2.2.2.2.2.2.2.2.2.2.2.2.2.1
                          have h19 : ((fun (v : Value) (_ : World) => v = .bool true)) (y 19) X := hf.2.2.2.2.2.2.2.2.2.2.2.2.2.2.2.2.2.2.2.1
                          clear hf
                          clear hsep hlt
                          refine Box.mk ?_
                          simp only [List.drop_succ_cons, List.drop_zero, fill, Act.put, Nat.reduceAdd, List.setIfInBounds_toArray, List.set_cons_zero, List.set_cons_succ, h0, h1, h2, h3, h4, h5, h6, h7, h8, h9, h10, h11, h12, h13, h14, h15, h16, h17, h18, h19]
                          clear h0 h1 h2 h3 h4 h5 h6 h7 h8 h9 h10 h11 h12 h13 h14 h15 h16 h17 h18 h19
                          have EF := Lib.hid (BB.out.trans (W5.out.trans ex)); clear ex
                          go_wp2_with fail
                          refine NoPanic.normal ?_
                          go_wp2
                          go_ret
                          exact ⟨rfl, EF.out⟩
end Go.Proofs.Ytgjanbgehbpciaa
