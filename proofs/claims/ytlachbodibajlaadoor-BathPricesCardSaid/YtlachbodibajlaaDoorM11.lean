/- Walks: the law BathDual. · Common subsequences: the table of lengths; the first longest, letter by letter. -/
import Derived.Test.YtlachbodibajlaaDoorM10
import Derived.Test.YtlachbodibajlaaDoorM8
import Derived.Test.YtlachbodibajlaaDoorM6
namespace Go.Proofs.YtlachbodibajlaaDoor
open Go.RowKit Go.Shelf

theorem sl2 (u v : List UInt8) (W : World) : Sl (W.alloc (.cells #[.string ⟨u.toArray⟩, .string ⟨v.toArray⟩] 9)) (.slice (some ⟨W.heap.size, 0, none⟩) 2 2) [u, v] := by
  have hb := heap_alloc_new W (.cells #[.string ⟨u.toArray⟩, .string ⟨v.toArray⟩] 9)
  refine ⟨_, 2, rfl, Nat.le_refl 2, by decide, fun _ => ⟨W.heap.size, 0, rfl, (Array.getElem?_eq_some_iff.1 hb).1, fun j hj => ?_⟩⟩
  have hj2 : j < 2 := hj
  rcases (show j = 0 ∨ j = 1 by omega) with rfl | rfl
  · exact (cell_of_row _ _ _ _ 9 (0, 0) hb).trans rfl
  · exact (cell_of_row _ _ _ _ 9 (0, 0) hb).trans rfl
theorem sl3 (u v x : List UInt8) (W : World) : Sl (W.alloc (.cells #[.string ⟨u.toArray⟩, .string ⟨v.toArray⟩, .string ⟨x.toArray⟩] 9)) (.slice (some ⟨W.heap.size, 0, none⟩) 3 3) [u, v, x] := by
  have hb := heap_alloc_new W (.cells #[.string ⟨u.toArray⟩, .string ⟨v.toArray⟩, .string ⟨x.toArray⟩] 9)
  refine ⟨_, 3, rfl, Nat.le_refl 3, by decide, fun _ => ⟨W.heap.size, 0, rfl, (Array.getElem?_eq_some_iff.1 hb).1, fun j hj => ?_⟩⟩
  have hj2 : j < 3 := hj
  rcases (show j = 0 ∨ j = 1 ∨ j = 2 by omega) with rfl | rfl | rfl
  · exact (cell_of_row _ _ _ _ 9 (0, 0) hb).trans rfl
  · exact (cell_of_row _ _ _ _ 9 (0, 0) hb).trans rfl
  · exact (cell_of_row _ _ _ _ 9 (0, 0) hb).trans rfl
theorem okWs2 (u v : List UInt8) : okWs [u, v] = (okWd u && okWd v) := by simp [okWs]
theorem okWs3 (u v x : List UInt8) : okWs [u, v, x] = ((okWd u && okWd v) && okWd x) := by simp [okWs, Bool.and_assoc]
theorem okWd_iff {u : List UInt8} : okWd u = true ↔ u.length ≤ 8 ∧ ∀ c ∈ u, c ∈ Bw.letters := by unfold okWd; rw [Bool.and_eq_true, decide_eq_true_eq, okL_iff]

set_option maxHeartbeats 4000000 in
set_option maxRecDepth 100000 in
theorem bathDual_walk (u v x : List UInt8) (W : World) (hu : u.length ≤ 9223372036854775807) (hv : v.length ≤ 9223372036854775807) (hx : x.length ≤ 9223372036854775807) :
    Calls Tryd.prog 8 #[.string ⟨u.toArray⟩, .string ⟨v.toArray⟩, .string ⟨x.toArray⟩] W fun e W' => e = .returned (.bool true) ∧ Ext W W' := by
  have s2 : Sm [u, v] := fun s h => by simp at h; rcases h with rfl | rfl <;> assumption
  have s3 : Sm [u, v, x] := fun s h => by simp at h; rcases h with rfl | rfl | rfl <;> assumption
  have C1 := Lib.hid fun X V h => shortest_any [u, v] V X h s2
  have C2 := Lib.hid fun X => common_any u v X hu hv
  have C3 := Lib.hid fun X V h => shortest_any [u, v, x] V X h s3
  have C4 := Lib.hid fun X => wordR_any x X hx
  have A2 := Lib.hid (sl2 u v); have A3 := Lib.hid (sl3 u v x)
  cases hok : (okWd u && okWd v)
  · have h1 : shS [u, v] = [] := by unfold shS; rw [okWs2, hok]; rfl
    have h2 : shE [u, v] = 2 := by unfold shE; rw [okWs2, hok]; rfl
    have h3 : coS u v = [] := by unfold coS; rw [hok]; rfl
    have h4 : coE u v = 2 := by unfold coE; rw [hok]; rfl
    rw [h1, h2] at C1
    rw [h3, h4] at C2
    clear h1 h2 h3 h4 hok s2 s3 hu hv hx
    go_enter Tryd.func8, Tryd.ntmps8
    have e1 : Hid (Ext W (W.alloc (.cells #[.string ⟨u.toArray⟩, .string ⟨v.toArray⟩] 9))) := Lib.hid (al1 W _)
    go_wp2_with fail
    refine (C1.out _ _ (A2.out W)).mono ?_
    rintro e w1 ⟨rfl, hx⟩
    have HX := Lib.hid (e1.out.trans hx); clear hx
    go_wp2_with fail
    refine (C2.out _).mono ?_
    rintro e w2 ⟨rfl, hx⟩
    replace HX := Lib.hid (HX.out.trans hx); clear hx
    go_wp2_with fail
    refine (awake_any _).mono ?_
    rintro e w3 ⟨rfl, hx⟩
    replace HX := Lib.hid (HX.out.trans hx); clear hx
    go_wp2
    go_ret
    exact ⟨rfl, HX.out⟩
  · have hok2 := hok
    rw [Bool.and_eq_true] at hok2
    obtain ⟨hu8, hul⟩ := okWd_iff.1 hok2.1
    obtain ⟨hv8, hvl⟩ := okWd_iff.1 hok2.2
    have h1 : shS [u, v] = (Bw.rest [u, v] 0).1 := by unfold shS; rw [okWs2, hok]; rfl
    have h2 : shE [u, v] = 0 := by unfold shE; rw [okWs2, hok]; rfl
    have h3 : coS u v = Bw.cm u v := by unfold coS; rw [hok]; rfl
    have h4 : coE u v = 0 := by unfold coE; rw [hok]; rfl
    have hd := Bw.dual hul hvl
    have hW2 : Bw.okW [u, v] := by
      intro w hw
      simp at hw
      rcases hw with rfl | rfl
      · exact hul
      · exact hvl
    have hm : okWd x = true → shE [u, v, x] = 0 ∧ (Bw.rest [u, v] 0).1.length ≤ (shS [u, v, x]).length ∧ (shS [u, v, x]).length ≤ 32 := fun h => by
      have hok3 : okWs [u, v, x] = true := by rw [okWs3, hok, h]; rfl
      obtain ⟨-, h4', h8', hW3⟩ := okWs_iff.1 hok3
      have e1 : shE [u, v, x] = 0 := by unfold shE; rw [hok3]; rfl
      have e2 : shS [u, v, x] = (Bw.rest [u, v, x] 0).1 := by unfold shS; rw [hok3]; rfl
      rw [e2]
      refine ⟨e1, Bw.rest_mono hW2 hW3 (fun w hw => by simp at hw ⊢; rcases hw with h | h; exact .inl h; exact .inr (.inl h)), ?_⟩
      exact Nat.le_trans (Bw.rest_len hW3 _ 0 (Bw.sz_pos _) (Nat.le_refl _)) (Bw.rem_zero_le _ h4' h8' 0)
    have hn : okWd x = false → shE [u, v, x] = 2 := fun h => by
      unfold shE; rw [okWs3, hok, h]; rfl
    rw [h1, h2] at C1
    rw [h3, h4] at C2
    obtain ⟨s, hs⟩ : ∃ s, s = (Bw.rest [u, v] 0).1 := ⟨_, rfl⟩
    obtain ⟨c, hc⟩ : ∃ c, c = Bw.cm u v := ⟨_, rfl⟩
    obtain ⟨t, ht⟩ : ∃ t, t = shS [u, v, x] := ⟨_, rfl⟩
    obtain ⟨er, her⟩ : ∃ er, er = shE [u, v, x] := ⟨_, rfl⟩
    rw [← hs] at C1 hd hm
    rw [← hc] at C2 hd
    rw [← ht, ← her] at C3
    rw [← ht, ← her] at hm
    rw [← her] at hn
    have HM := Lib.hid hm; have HN := Lib.hid hn
    have hsl : s.length ≤ 16 := by omega
    have hcl : c.length ≤ 16 := by omega
    have y1 : IntKind.i64.wrap ((s.length : Int) + (c.length : Int)) = (s.length : Int) + (c.length : Int) := IntWalk.i64_in _ (by omega)
    have y2 : IntKind.i64.wrap ((u.length : Int) + (v.length : Int)) = (s.length : Int) + (c.length : Int) := by
      rw [show (u.length : Int) + (v.length : Int) = (s.length : Int) + (c.length : Int) by omega]; exact y1
    have HY := Lib.hid (And.intro y1 y2)
    clear h1 h2 h3 h4 hok hok2 s2 s3 hu hv hx hul hvl hd hW2 hm hn hs hc ht her y1 y2
    go_enter Tryd.func8, Tryd.ntmps8
    have e1 : Hid (Ext W (W.alloc (.cells #[.string ⟨u.toArray⟩, .string ⟨v.toArray⟩] 9))) := Lib.hid (al1 W _)
    go_wp2_with fail
    refine (C1.out _ _ (A2.out W)).mono ?_
    rintro e w1 ⟨rfl, hx⟩
    have HX := Lib.hid (e1.out.trans hx); clear hx
    go_wp2_with fail
    refine (C2.out _).mono ?_
    rintro e w2 ⟨rfl, hx⟩
    replace HX := Lib.hid (HX.out.trans hx); clear hx
    obtain ⟨y1, y2⟩ := HY.out
    go_upto_region 5 with fail
    go_upto_region 7 with fail
    clear y1 y2
    have e3 : Hid (Ext w2 (w2.alloc (.cells #[.string ⟨u.toArray⟩, .string ⟨v.toArray⟩, .string ⟨x.toArray⟩] 9))) := Lib.hid (al1 w2 _)
    go_wp2_with fail
    refine (C3.out _ _ (A3.out w2)).mono ?_
    rintro e w3 ⟨rfl, hx⟩
    replace HX := Lib.hid (HX.out.trans (e3.out.trans hx)); clear hx
    cases hwx : okWd x
    · have h2 := HN.out hwx
      subst h2
      rw [hwx] at C4
      clear hwx
      go_wp2_with fail
      refine (C4.out _).mono ?_
      rintro e w4 ⟨rfl, hx⟩
      replace HX := Lib.hid (HX.out.trans hx); clear hx
      go_wp2_with fail
      refine (awake_any _).mono ?_
      rintro e w5 ⟨rfl, hx⟩
      replace HX := Lib.hid (HX.out.trans hx); clear hx
      go_wp2
      go_ret
      exact ⟨rfl, HX.out⟩
    · obtain ⟨h2, hle, h32⟩ := HM.out hwx
      subst h2
      have hle2 : ¬ (t.length : Int) < (s.length : Int) := by omega
      have hle3 : (s.length : Int) ≤ (t.length : Int) := by omega
      clear hwx
      go_wp2_with fail
      refine (awake_any _).mono ?_
      rintro e w5 ⟨rfl, hx⟩
      replace HX := Lib.hid (HX.out.trans hx); clear hx
      go_wp2
      go_ret
      exact ⟨rfl, HX.out⟩
end Go.Proofs.YtlachbodibajlaaDoor
namespace Go.Proofs.Bw

theorem CS.nilL {y : List UInt8} {k : Nat} (h : CS [] y k) : k = 0 := by
  have := h.le_left; simpa using this
theorem CS.nilR : ∀ {x : List UInt8} {k : Nat}, CS x [] k → k = 0
  | [], _, h => h.nilL
  | _ :: _, _, h => by
    cases h with
    | left _ h => exact h.nilR
theorem CS.cons_iff {a b : UInt8} {x y : List UInt8} {k : Nat} : CS (a :: x) (b :: y) k ↔ CS x (b :: y) k ∨ CS (a :: x) y k ∨ (a = b ∧ ∃ n, k = n + 1 ∧ CS x y n) := by
  constructor
  · intro h
    cases h with
    | left _ h => exact .inl h
    | right _ h => exact .inr (.inl h)
    | both _ h => exact .inr (.inr ⟨rfl, _, rfl, h⟩)
  · rintro (h | h | ⟨rfl, n, rfl, h⟩)
    · exact .left _ h
    · exact .right _ h
    · exact .both _ h
/-- the length of the longest -/
def cl (x y : List UInt8) : Nat := (cm x y).length
theorem cl_nilR (x : List UInt8) : cl x [] = 0 := (cm_cs x []).nilR
theorem cl_nilL (y : List UInt8) : cl [] y = 0 := (cm_cs [] y).nilL
theorem cl_cons {a b : UInt8} {x y : List UInt8} (hx : ∀ c ∈ a :: x, c ∈ letters) :
    cl (a :: x) (b :: y) = if a = b then max (max (cl x (b :: y)) (cl (a :: x) y)) (cl x y + 1) else max (cl x (b :: y)) (cl (a :: x) y) := by
  have hx' : ∀ c ∈ x, c ∈ letters := fun c h => hx c (by simp [h])
  have h1 : cl x (b :: y) ≤ cl (a :: x) (b :: y) := cm_max hx (.left _ (cm_cs x (b :: y)))
  have h2 : cl (a :: x) y ≤ cl (a :: x) (b :: y) := cm_max hx (.right _ (cm_cs (a :: x) y))
  rcases CS.cons_iff.1 (cm_cs (a :: x) (b :: y)) with h | h | ⟨e, n, hn, h⟩
  · have h3 : cl (a :: x) (b :: y) ≤ cl x (b :: y) := cm_max hx' h
    split
    · rename_i e
      subst e
      have h4 : cl x y + 1 ≤ cl (a :: x) (a :: y) := cm_max hx (.both _ (cm_cs x y))
      omega
    · omega
  · have h3 : cl (a :: x) (b :: y) ≤ cl (a :: x) y := cm_max hx h
    split
    · rename_i e
      subst e
      have h4 : cl x y + 1 ≤ cl (a :: x) (a :: y) := cm_max hx (.both _ (cm_cs x y))
      omega
    · omega
  · have h3 : n ≤ cl x y := cm_max hx' h
    have h4 : cl (a :: x) (b :: y) = n + 1 := hn
    subst e
    have h5 : cl x y + 1 ≤ cl (a :: x) (a :: y) := cm_max hx (.both _ (cm_cs x y))
    rw [if_pos rfl]
    omega
/-- a letter with which a longest common string can begin -/
def gd (x y : List UInt8) (c : UInt8) : Prop := ∃ i j, fi x c = some i ∧ fi y c = some j ∧ cl (x.drop (i + 1)) (y.drop (j + 1)) + 1 = cl x y
/-- what holds of the first letters looked at -/
theorem cmS_all (C : List UInt8 → List UInt8 → List UInt8) (x y : List UInt8) : ∀ (l pre : List UInt8) (b : List UInt8),
    (b = [] ∧ (∀ d ∈ pre, ∀ i j, fi x d = some i → fi y d = some j → False) ∨
      ∃ pre1 c post1 i j, pre = pre1 ++ c :: post1 ∧ fi x c = some i ∧ fi y c = some j ∧ b = c :: C (x.drop (i + 1)) (y.drop (j + 1)) ∧
        (∀ d ∈ pre1, ∀ i' j', fi x d = some i' → fi y d = some j' → (C (x.drop (i' + 1)) (y.drop (j' + 1))).length + 1 < b.length) ∧
        (∀ d ∈ pre, ∀ i' j', fi x d = some i' → fi y d = some j' → (C (x.drop (i' + 1)) (y.drop (j' + 1))).length + 1 ≤ b.length)) →
    (l.foldl (cmS C x y) b = [] ∧ (∀ d ∈ pre ++ l, ∀ i j, fi x d = some i → fi y d = some j → False) ∨
      ∃ pre1 c post1 i j, pre ++ l = pre1 ++ c :: post1 ∧ fi x c = some i ∧ fi y c = some j ∧ l.foldl (cmS C x y) b = c :: C (x.drop (i + 1)) (y.drop (j + 1)) ∧
        (∀ d ∈ pre1, ∀ i' j', fi x d = some i' → fi y d = some j' → (C (x.drop (i' + 1)) (y.drop (j' + 1))).length + 1 < (l.foldl (cmS C x y) b).length) ∧
        (∀ d ∈ pre ++ l, ∀ i' j', fi x d = some i' → fi y d = some j' → (C (x.drop (i' + 1)) (y.drop (j' + 1))).length + 1 ≤ (l.foldl (cmS C x y) b).length))
  | [], pre, b, h => by simpa using h
  | e :: l, pre, b, h => by
    rw [List.foldl_cons, show pre ++ e :: l = (pre ++ [e]) ++ l by simp]
    refine cmS_all C x y l (pre ++ [e]) _ ?_
    cases hx : fi x e with
    | none =>
      have hs : cmS C x y b e = b := by unfold cmS; rw [hx]
      rw [hs]
      rcases h with ⟨h1, h2⟩ | ⟨pre1, c, post1, i, j, h1, h2, h3, h4, h5, h6⟩
      · refine .inl ⟨h1, fun d hd i j hi hj => ?_⟩
        rcases List.mem_append.1 hd with hd | hd
        · exact h2 d hd i j hi hj
        · obtain rfl : d = e := by simpa using hd
          rw [hx] at hi; cases hi
      · refine .inr ⟨pre1, c, post1 ++ [e], i, j, by rw [h1]; simp, h2, h3, h4, h5, fun d hd i' j' hi hj => ?_⟩
        rcases List.mem_append.1 hd with hd | hd
        · exact h6 d hd i' j' hi hj
        · obtain rfl : d = e := by simpa using hd
          rw [hx] at hi; cases hi
    | some a =>
      cases hy : fi y e with
      | none =>
        have hs : cmS C x y b e = b := by unfold cmS; rw [hx, hy]
        rw [hs]
        rcases h with ⟨h1, h2⟩ | ⟨pre1, c, post1, i, j, h1, h2, h3, h4, h5, h6⟩
        · refine .inl ⟨h1, fun d hd i j hi hj => ?_⟩
          rcases List.mem_append.1 hd with hd | hd
          · exact h2 d hd i j hi hj
          · obtain rfl : d = e := by simpa using hd
            rw [hy] at hj; cases hj
        · refine .inr ⟨pre1, c, post1 ++ [e], i, j, by rw [h1]; simp, h2, h3, h4, h5, fun d hd i' j' hi hj => ?_⟩
          rcases List.mem_append.1 hd with hd | hd
          · exact h6 d hd i' j' hi hj
          · obtain rfl : d = e := by simpa using hd
            rw [hy] at hj; cases hj
      | some z =>
        by_cases hlt : b.length < (C (x.drop (a + 1)) (y.drop (z + 1))).length + 1
        · have hs : cmS C x y b e = e :: C (x.drop (a + 1)) (y.drop (z + 1)) := by unfold cmS; rw [hx, hy]; exact if_pos hlt
          rw [hs]
          refine .inr ⟨pre, e, [], a, z, rfl, hx, hy, rfl, fun d hd i' j' hi hj => ?_, fun d hd i' j' hi hj => ?_⟩
          · rw [List.length_cons]
            rcases h with ⟨h1, h2⟩ | ⟨pre1, c, post1, i, j, h1, h2, h3, h4, h5, h6⟩
            · exact (h2 d hd i' j' hi hj).elim
            · have := h6 d hd i' j' hi hj; omega
          · rw [List.length_cons]
            rcases List.mem_append.1 hd with hd | hd
            · rcases h with ⟨h1, h2⟩ | ⟨pre1, c, post1, i, j, h1, h2, h3, h4, h5, h6⟩
              · exact (h2 d hd i' j' hi hj).elim
              · have := h6 d hd i' j' hi hj; omega
            · obtain rfl : d = e := by simpa using hd
              rw [hx] at hi; rw [hy] at hj
              cases hi; cases hj
              exact Nat.le_refl _
        · have hs : cmS C x y b e = b := by unfold cmS; rw [hx, hy]; exact if_neg hlt
          rw [hs]
          rcases h with ⟨h1, h2⟩ | ⟨pre1, c, post1, i, j, h1, h2, h3, h4, h5, h6⟩
          · rw [h1] at hlt; simp at hlt
          · refine .inr ⟨pre1, c, post1 ++ [e], i, j, by rw [h1]; simp, h2, h3, h4, h5, fun d hd i' j' hi hj => ?_⟩
            rcases List.mem_append.1 hd with hd | hd
            · exact h6 d hd i' j' hi hj
            · obtain rfl : d = e := by simpa using hd
              rw [hx] at hi; rw [hy] at hj
              cases hi; cases hj
              omega
theorem cm_head (x y : List UInt8) (h : 0 < cl x y) : ∃ pre c post i j, letters = pre ++ c :: post ∧ fi x c = some i ∧ fi y c = some j ∧ cm x y = c :: cm (x.drop (i + 1)) (y.drop (j + 1)) ∧ (∀ d ∈ pre, ¬ gd x y d) ∧ gd x y c := by
  have h0 := cmS_all cm x y letters [] [] (.inl ⟨rfl, fun d hd => by cases hd⟩)
  rw [← cm_eq, List.nil_append] at h0
  rcases h0 with ⟨h1, -⟩ | ⟨pre1, c, post1, i, j, h1, h2, h3, h4, h5, h6⟩
  · unfold cl at h; rw [h1] at h; simp at h
  · refine ⟨pre1, c, post1, i, j, h1, h2, h3, h4, fun d hd hg => ?_, i, j, h2, h3, ?_⟩
    · obtain ⟨i', j', g1, g2, g3⟩ := hg
      have := h5 d hd i' j' g1 g2
      unfold cl at g3; omega
    · unfold cl; rw [h4, List.length_cons]
theorem gd_first {x y : List UInt8} {k : Nat} {d : UInt8} {i j : Nat} (h : 0 < cl x y) (hk : letters[k]? = some d) (hi : fi x d = some i) (hj : fi y d = some j) (hg : cl (x.drop (i + 1)) (y.drop (j + 1)) + 1 = cl x y)
    (hno : ∀ j e, j < k → letters[j]? = some e → ¬ gd x y e) : cm x y = d :: cm (x.drop (i + 1)) (y.drop (j + 1)) := by
  obtain ⟨pre, c, post, i', j', h1, h2, h3, h4, h5, h6⟩ := cm_head x y h
  have hc : letters[pre.length]? = some c := by rw [h1]; simp
  have hkp : k = pre.length := by
    rcases Nat.lt_trichotomy k pre.length with hlt | he | hgt
    · have : d ∈ pre := by
        rw [h1, List.getElem?_append_left hlt] at hk
        exact List.mem_of_getElem? hk
      exact (h5 d this ⟨i, j, hi, hj, hg⟩).elim
    · exact he
    · exact (hno _ _ hgt hc h6).elim
  subst hkp
  rw [hc] at hk
  injection hk with hk
  subst hk
  rw [h2] at hi; rw [h3] at hj
  cases hi; cases hj
  exact h4
theorem gd_some {x y : List UInt8} (h : 0 < cl x y) : ∃ k d, k < 8 ∧ letters[k]? = some d ∧ gd x y d := by
  obtain ⟨pre, c, post, i', j', h1, h2, h3, h4, h5, h6⟩ := cm_head x y h
  have hl : letters.length = 8 := rfl
  refine ⟨pre.length, c, ?_, by rw [h1]; simp, h6⟩
  rw [h1, List.length_append, List.length_cons] at hl
  omega
end Go.Proofs.Bw
