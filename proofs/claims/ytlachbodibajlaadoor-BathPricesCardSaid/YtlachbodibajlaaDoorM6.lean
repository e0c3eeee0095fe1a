/- Common subsequences and supersequences. · Walks: the words of the reference. · Walks: Covers of the reference; moved. -/
import Derived.Test.YtlachbodibajlaaDoorM1
import Derived.Test.YtlachbodibajlaaDoorM5
namespace Go.Proofs.Bw

/-- x and y have a common subsequence of k letters -/
inductive CS : List UInt8 → List UInt8 → Nat → Prop
  | nil : CS [] [] 0
  | left (a : UInt8) {x y : List UInt8} {k : Nat} : CS x y k → CS (a :: x) y k
  | right (b : UInt8) {x y : List UInt8} {k : Nat} : CS x y k → CS x (b :: y) k
  | both (c : UInt8) {x y : List UInt8} {k : Nat} : CS x y k → CS (c :: x) (c :: y) (k + 1)

theorem CS.zero : ∀ (x y : List UInt8), CS x y 0
  | [], [] => .nil
  | [], b :: y => .right b (CS.zero [] y)
  | a :: x, y => .left a (CS.zero x y)
theorem CS.dropL {y : List UInt8} {k : Nat} : ∀ (x : List UInt8) (n : Nat), CS (x.drop n) y k → CS x y k
  | x, 0, h => by rwa [List.drop_zero] at h
  | [], n + 1, h => by simpa using h
  | a :: x, n + 1, h => .left a (CS.dropL x n (by simpa using h))
theorem CS.dropR {x : List UInt8} {k : Nat} : ∀ (y : List UInt8) (n : Nat), CS x (y.drop n) k → CS x y k
  | y, 0, h => by rwa [List.drop_zero] at h
  | [], n + 1, h => by simpa using h
  | b :: y, n + 1, h => .right b (CS.dropR y n (by simpa using h))
theorem CS.at {x y : List UInt8} {a b k : Nat} {c : UInt8} (ha : x[a]? = some c) (hb : y[b]? = some c) (h : CS (x.drop (a + 1)) (y.drop (b + 1)) k) : CS x y (k + 1) := by
  obtain ⟨hal, hac⟩ := List.getElem?_eq_some_iff.1 ha
  obtain ⟨hbl, hbc⟩ := List.getElem?_eq_some_iff.1 hb
  refine CS.dropL x a (CS.dropR y b ?_)
  rw [List.drop_eq_getElem_cons hal, List.drop_eq_getElem_cons hbl, hac, hbc]
  exact .both c h
theorem CS.split {x y : List UInt8} {k : Nat} (h : CS x y (k + 1)) : ∃ a b c, x[a]? = some c ∧ y[b]? = some c ∧ CS (x.drop (a + 1)) (y.drop (b + 1)) k := by
  generalize hn : k + 1 = n at h
  induction h with
  | nil => omega
  | left a _ ih =>
    obtain ⟨i, j, c, h1, h2, h3⟩ := ih hn
    exact ⟨i + 1, j, c, by simpa using h1, h2, by simpa using h3⟩
  | right b _ ih =>
    obtain ⟨i, j, c, h1, h2, h3⟩ := ih hn
    exact ⟨i, j + 1, c, h1, by simpa using h2, by simpa using h3⟩
  | both c h _ =>
    obtain rfl : k = _ := Nat.succ.inj hn
    exact ⟨0, 0, c, rfl, rfl, by simpa using h⟩
/-- a common supersequence -/
theorem CS.super {x y : List UInt8} {k : Nat} (h : CS x y k) : ∃ s : List UInt8, x.Sublist s ∧ y.Sublist s ∧ s.length + k = x.length + y.length ∧ ∀ c ∈ s, c ∈ x ∨ c ∈ y := by
  induction h with
  | nil => exact ⟨[], .slnil, .slnil, rfl, fun c h => by cases h⟩
  | left a _ ih =>
    obtain ⟨s, h1, h2, h3, h4⟩ := ih
    refine ⟨a :: s, h1.cons_cons a, h2.cons a, by simp; omega, fun c hc => ?_⟩
    rcases List.mem_cons.1 hc with rfl | hc
    · exact .inl (by simp)
    · rcases h4 c hc with h | h
      · exact .inl (by simp [h])
      · exact .inr h
  | right b _ ih =>
    obtain ⟨s, h1, h2, h3, h4⟩ := ih
    refine ⟨b :: s, h1.cons b, h2.cons_cons b, by simp; omega, fun c hc => ?_⟩
    rcases List.mem_cons.1 hc with rfl | hc
    · exact .inr (by simp)
    · rcases h4 c hc with h | h
      · exact .inl h
      · exact .inr (by simp [h])
  | both d _ ih =>
    obtain ⟨s, h1, h2, h3, h4⟩ := ih
    refine ⟨d :: s, h1.cons_cons d, h2.cons_cons d, by simp; omega, fun c hc => ?_⟩
    rcases List.mem_cons.1 hc with rfl | hc
    · exact .inl (by simp)
    · rcases h4 c hc with h | h
      · exact .inl (by simp [h])
      · exact .inr (by simp [h])
theorem CS.of_super : ∀ (s x y : List UInt8), x.Sublist s → y.Sublist s → ∃ k, CS x y k ∧ x.length + y.length ≤ s.length + k
  | [], x, y, hx, hy => by
    rw [List.eq_nil_of_sublist_nil hx, List.eq_nil_of_sublist_nil hy]; exact ⟨0, .nil, by simp⟩
  | c :: s, x, y, hx, hy => by
    cases hx with
    | cons _ hx =>
      cases hy with
      | cons _ hy =>
        obtain ⟨k, h1, h2⟩ := CS.of_super s x y hx hy
        exact ⟨k, h1, by simp; omega⟩
      | cons_cons _ hy =>
        obtain ⟨k, h1, h2⟩ := CS.of_super s x _ hx hy
        exact ⟨k, .right c h1, by simp; omega⟩
    | cons_cons _ hx =>
      cases hy with
      | cons _ hy =>
        obtain ⟨k, h1, h2⟩ := CS.of_super s _ y hx hy
        exact ⟨k, .left c h1, by simp; omega⟩
      | cons_cons _ hy =>
        obtain ⟨k, h1, h2⟩ := CS.of_super s _ _ hx hy
        exact ⟨k + 1, .both c h1, by simp; omega⟩

/-- reading a word to its end -/
theorem run1_sub (w : Word) : ∀ (s : List UInt8) (a : Nat), a ≤ w.length → (run1 w a s = w.length ↔ (w.drop a).Sublist s)
  | [], a, ha => by
    rw [show run1 w a [] = a from rfl, List.sublist_nil, List.drop_eq_nil_iff]; omega
  | c :: s, a, ha => by
    rw [show run1 w a (c :: s) = run1 w (a + dl w a c) s from rfl, run1_sub w s _ (dl_room w a c ha)]
    unfold dl
    by_cases h : w[a]? = some c
    · rw [if_pos h]
      obtain ⟨hl, hc⟩ := List.getElem?_eq_some_iff.1 h
      rw [List.drop_eq_getElem_cons hl, hc]
      exact ⟨fun h => h.cons_cons c, fun h => by
        cases h with
        | cons _ h => exact (List.sublist_cons_self _ _).trans h
        | cons_cons _ h => exact h⟩
    · rw [if_neg h, Nat.add_zero]
      refine ⟨fun h => h.cons c, fun hs => ?_⟩
      by_cases hl : a < w.length
      · rw [List.drop_eq_getElem_cons hl] at hs ⊢
        cases hs with
        | cons _ h => exact h
        | cons_cons _ h2 => exact absurd (by rw [List.getElem?_eq_getElem hl]) h
      · rw [List.drop_of_length_le (by omega)]; exact List.nil_sublist _
theorem run_sub (ws : List Word) (s : List UInt8) : run ws 0 s = last ws ↔ ∀ w ∈ ws, w.Sublist s := by
  rw [run_last]
  constructor
  · intro h w hw
    have := (run1_sub w s 0 (Nat.zero_le _)).1 (h w hw)
    rwa [List.drop_zero] at this
  · intro h w hw
    exact (run1_sub w s 0 (Nat.zero_le _)).2 (by rw [List.drop_zero]; exact h w hw)
/-- the first place of a letter -/
def fi (l : List UInt8) (c : UInt8) : Option Nat := l.findIdx? (· == c)
theorem fi_some {l : List UInt8} {c : UInt8} {i : Nat} (h : fi l c = some i) : l[i]? = some c ∧ i < l.length := by
  unfold fi at h
  obtain ⟨hl, h1, -⟩ := List.findIdx?_eq_some_iff_getElem.1 h
  rw [List.getElem?_eq_getElem hl]
  exact ⟨by simpa using h1, hl⟩
theorem fi_le {l : List UInt8} {c : UInt8} {i : Nat} (h : l[i]? = some c) : ∃ j, fi l c = some j ∧ j ≤ i := by
  obtain ⟨hl, hc⟩ := List.getElem?_eq_some_iff.1 h
  cases hf : fi l c with
  | none =>
    unfold fi at hf
    rw [List.findIdx?_eq_none_iff] at hf
    have := hf c (by rw [← hc]; exact List.getElem_mem hl)
    simp at this
  | some j =>
    refine ⟨j, rfl, ?_⟩
    unfold fi at hf
    obtain ⟨hl2, h1, h2⟩ := List.findIdx?_eq_some_iff_getElem.1 hf
    rcases Nat.lt_or_ge i j with h3 | h3
    · have := h2 i h3
      simp [hc] at this
    · exact h3
/-- one letter looked at -/
def cmS (C : List UInt8 → List UInt8 → List UInt8) (x y : List UInt8) (b : List UInt8) (c : UInt8) : List UInt8 :=
  match fi x c, fi y c with
  | some i, some j => if b.length < (C (x.drop (i + 1)) (y.drop (j + 1))).length + 1 then c :: C (x.drop (i + 1)) (y.drop (j + 1)) else b
  | _, _ => b
/-- the first longest common subsequence; n: as many letters as x has, or more -/
def cmN : Nat → List UInt8 → List UInt8 → List UInt8
  | 0, _, _ => []
  | n + 1, x, y => letters.foldl (cmS (cmN n) x y) []
theorem cmS_congr {C D : List UInt8 → List UInt8 → List UInt8} {x y : List UInt8} (h : ∀ i j, i < x.length → C (x.drop (i + 1)) (y.drop (j + 1)) = D (x.drop (i + 1)) (y.drop (j + 1))) (b : List UInt8) (c : UInt8) : cmS C x y b c = cmS D x y b c := by
  unfold cmS
  cases hx : fi x c with
  | none => rfl
  | some i =>
    cases hy : fi y c with
    | none => rfl
    | some j => dsimp only; rw [h i j (fi_some hx).2]
theorem cmN_nil (n : Nat) (y : List UInt8) : cmN n [] y = [] := by
  cases n with
  | zero => rfl
  | succ n =>
    have : ∀ (l : List UInt8) (b : List UInt8), l.foldl (cmS (cmN n) [] y) b = b := by
      intro l
      induction l with
      | nil => intro b; rfl
      | cons c l ih => intro b; rw [List.foldl_cons]; exact ih b
    exact this _ _
theorem cmN_enough : ∀ (n m : Nat) (x y : List UInt8), x.length ≤ n → x.length ≤ m → cmN n x y = cmN m x y
  | 0, m, x, y, h, _ => by rw [List.eq_nil_of_length_eq_zero (by omega : x.length = 0), cmN_nil, cmN_nil]
  | n + 1, 0, x, y, _, h => by rw [List.eq_nil_of_length_eq_zero (by omega : x.length = 0), cmN_nil, cmN_nil]
  | n + 1, m + 1, x, y, h1, h2 => by
    refine foldl_congr _ _ fun b c _ => cmS_congr (fun i j hi => ?_) b c
    exact cmN_enough n m _ _ (by rw [List.length_drop]; omega) (by rw [List.length_drop]; omega)
def cm (x y : List UInt8) : List UInt8 := cmN x.length x y
theorem cm_eq (x y : List UInt8) : cm x y = letters.foldl (cmS cm x y) [] := by
  unfold cm
  cases hx : x.length with
  | zero =>
    have e := List.eq_nil_of_length_eq_zero hx
    subst e
    have : ∀ (C : List UInt8 → List UInt8 → List UInt8) (l : List UInt8) (b : List UInt8), l.foldl (cmS C [] y) b = b := by
      intro C l
      induction l with
      | nil => intro b; rfl
      | cons c l ih => intro b; rw [List.foldl_cons]; exact ih b
    rw [this]; rfl
  | succ n =>
    refine foldl_congr _ _ fun b c _ => cmS_congr (fun i j hi => ?_) b c
    exact cmN_enough _ _ _ _ (by rw [List.length_drop]; omega) (Nat.le_refl _)
theorem cmS_grow (C : List UInt8 → List UInt8 → List UInt8) (x y b : List UInt8) (c : UInt8) : b.length ≤ (cmS C x y b c).length := by
  unfold cmS
  split
  · split
    · simp; omega
    · exact Nat.le_refl _
  · exact Nat.le_refl _
theorem cmS_fold (C : List UInt8 → List UInt8 → List UInt8) (x y : List UInt8) : ∀ (l b : List UInt8), b.length ≤ (l.foldl (cmS C x y) b).length
  | [], b => Nat.le_refl _
  | c :: l, b => Nat.le_trans (cmS_grow C x y b c) (cmS_fold C x y l _)
theorem cmN_cs : ∀ (n : Nat) (x y : List UInt8), CS x y (cmN n x y).length
  | 0, x, y => CS.zero x y
  | n + 1, x, y => by
    have : ∀ (l b : List UInt8), CS x y b.length → CS x y (l.foldl (cmS (cmN n) x y) b).length := by
      intro l
      induction l with
      | nil => intro b h; exact h
      | cons c l ih =>
        intro b h
        rw [List.foldl_cons]
        refine ih _ ?_
        unfold cmS
        split
        · rename_i i j hi hj
          split
          · rw [List.length_cons]
            exact CS.at (fi_some hi).1 (fi_some hj).1 (cmN_cs n _ _)
          · exact h
        · exact h
    exact this _ _ (CS.zero x y)
theorem cm_cs (x y : List UInt8) : CS x y (cm x y).length := cmN_cs _ x y
theorem cmN_max : ∀ (n : Nat) (x y : List UInt8) (k : Nat), x.length ≤ n → (∀ c ∈ x, c ∈ letters) → CS x y k → k ≤ (cmN n x y).length
  | n, x, y, 0, _, _, _ => Nat.zero_le _
  | 0, x, y, k + 1, h, _, hk => by
    obtain ⟨a, b, c, h1, -, -⟩ := hk.split
    rw [List.eq_nil_of_length_eq_zero (by omega : x.length = 0)] at h1
    simp at h1
  | n + 1, x, y, k + 1, hn, hx, hk => by
    obtain ⟨a, b, c, h1, h2, h3⟩ := hk.split
    obtain ⟨i, hi, hia⟩ := fi_le h1
    obtain ⟨j, hj, hjb⟩ := fi_le h2
    have hc : c ∈ letters := hx c (List.mem_of_getElem? h1)
    have hil := (fi_some hi).2
    have h4 : CS (x.drop (i + 1)) (y.drop (j + 1)) k := by
      refine CS.dropL _ (a - i) (CS.dropR _ (b - j) ?_)
      rw [List.drop_drop, List.drop_drop, show i + 1 + (a - i) = a + 1 by omega, show j + 1 + (b - j) = b + 1 by omega]
      exact h3
    have ih := cmN_max n (x.drop (i + 1)) (y.drop (j + 1)) k (by rw [List.length_drop]; omega) (fun d hd => hx d (List.mem_of_mem_drop hd)) h4
    obtain ⟨pre, post, hl⟩ := List.append_of_mem hc
    show k + 1 ≤ (letters.foldl (cmS (cmN n) x y) []).length
    rw [hl, List.foldl_append, List.foldl_cons]
    refine Nat.le_trans ?_ (cmS_fold _ _ _ _ _)
    unfold cmS
    rw [hi, hj]
    dsimp only
    split
    · rw [List.length_cons]; omega
    · omega
theorem cm_max {x y : List UInt8} (hx : ∀ c ∈ x, c ∈ letters) {k : Nat} (h : CS x y k) : k ≤ (cm x y).length := cmN_max _ x y k (Nat.le_refl _) hx h
theorem CS.le_left {x y : List UInt8} {k : Nat} (h : CS x y k) : k ≤ x.length := by
  induction h with
  | nil => exact Nat.le_refl _
  | left a _ ih => rw [List.length_cons]; omega
  | right b _ ih => exact ih
  | both c _ ih => rw [List.length_cons]; omega
/-- shortest and longest -/
theorem dual {u v : List UInt8} (hu : ∀ c ∈ u, c ∈ letters) (hv : ∀ c ∈ v, c ∈ letters) : (rest [u, v] 0).1.length + (cm u v).length = u.length + v.length := by
  have hw : okW [u, v] := by
    intro w hw
    simp at hw
    rcases hw with rfl | rfl
    · exact hu
    · exact hv
  have hz : 0 < sz [u, v] := sz_pos _
  obtain ⟨s, h1, h2, h3, h4⟩ := (cm_cs u v).super
  have hle : (rest [u, v] 0).1.length ≤ s.length := rest_least hw s 0 hz (fun c hc => (h4 c hc).elim (hu c) (hv c)) ((run_sub _ _).2 (by
    intro w hw
    simp at hw
    rcases hw with rfl | rfl
    · exact h1
    · exact h2))
  have hc := (run_sub [u, v] _).1 (rest_covers hw _ 0 hz (Nat.le_refl _))
  obtain ⟨k, h5, h6⟩ := CS.of_super _ u v (hc u (by simp)) (hc v (by simp))
  have h7 := cm_max hu h5
  omega
theorem rest_letters {ws : List Word} (hw : okW ws) : ∀ (n p : Nat), p < sz ws → rem ws p ≤ n → ∀ c ∈ (rest ws p).1, c ∈ letters
  | n, p, hp, hn => by
    by_cases e : p = last ws
    · rw [e, rest_last]; intro c hc; cases hc
    · obtain ⟨pre, c, post, hl, hm, h1, -, -⟩ := rest_head hw hp e
      have hlt := rem_lt hm
      cases n with
      | zero => omega
      | succ n =>
        rw [h1]
        intro d hd
        rcases List.mem_cons.1 hd with rfl | hd
        · rw [hl]; simp
        · exact rest_letters hw n _ (mv_lt ws p c hp) (by omega) d hd
/-- more words: no shorter -/
theorem rest_mono {ws vs : List Word} (hw : okW ws) (hv : okW vs) (h : ∀ w ∈ ws, w ∈ vs) : (rest ws 0).1.length ≤ (rest vs 0).1.length := by
  have hc := (run_sub vs _).1 (rest_covers hv _ 0 (sz_pos _) (Nat.le_refl _))
  exact rest_least hw _ 0 (sz_pos _) (rest_letters hv _ 0 (sz_pos _) (Nat.le_refl _)) ((run_sub _ _).2 fun w hm => hc w (h w hm))
end Go.Proofs.Bw
namespace Go.Proofs.YtlachbodibajlaaDoor
open Go.RowKit Go.Shelf

set_option maxRecDepth 100000 in
theorem wordR_any (s : List UInt8) (W : World) (hs : s.length ≤ 9223372036854775807) :
    Calls Tryd.prog 29 #[.string ⟨s.toArray⟩] W fun e W' => e = .returned (.bool (okWd s)) ∧ Ext W W' := by
  have HS := Lib.hid hs
  clear hs
  have hd : okWd s = (decide ((s.length : Int) ≤ 8) && okL s) := by unfold okWd; congr 1; rw [decide_eq_decide]; omega
  rw [hd]
  clear hd
  by_cases h : (s.length : Int) ≤ 8
  · rw [decide_eq_true h, Bool.true_and]
    go_enter Tryd.func29, Tryd.ntmps29
    go_wp2_with fail
    refine (trim_any s _ HS.out).mono ?_
    rintro e w1 ⟨rfl, hx⟩
    have HX := Lib.hid hx
    clear hx
    go_wp2
    go_ret
    exact ⟨by rw [← trim_empty]; rfl, HX.out⟩
  · rw [decide_eq_false h, Bool.false_and]
    go_enter Tryd.func29, Tryd.ntmps29
    go_wp2
    go_ret
    exact ⟨rfl, Ext.refl _⟩

set_option maxHeartbeats 4000000 in
set_option maxRecDepth 100000 in
theorem wordsR_any (ws : List Bw.Word) (V : Value) (W : World) (hV : Sl W V ws) (hs : Sm ws) :
    Calls Tryd.prog 52 #[V] W fun e W' => e = .returned (.bool (okWs ws)) ∧ Ext W W' := by
  have HV := Lib.hid hV; have HS := Lib.hid hs
  clear hs
  obtain ⟨A, c, rfl, hac, hcm, -⟩ := hV
  obtain ⟨n, hn⟩ : ∃ n, n = ws.length := ⟨_, rfl⟩
  have HN := Lib.hid hn
  rw [← hn] at hac ⊢
  clear hn
  go_enter Tryd.func52, Tryd.ntmps52
  go_wp2_with fail
  go_loopw [7] (fun i wr => ∃ k : Nat, i = .int .i64 k ∧ k ≤ n ∧ (ws.take k).all okWd = true ∧ Hid (Ext W wr)) (fun i _ => n - (intOf i).toNat)
  case atStart => exact ⟨0, rfl, Nat.zero_le _, rfl, Lib.hid (Ext.refl _)⟩
  case round =>
    obtain ⟨k, rfl, hk, hall, hin⟩ := hrel
    by_cases hlt : k < n
    · have hlt' : k < ws.length := by rw [← HN.out]; exact hlt
      obtain ⟨b1, o1, rfl, -, e1⟩ := Vl.at HV.out hin.out hlt'
      obtain ⟨s, hs⟩ : ∃ s, s = ws.getD k [] := ⟨_, rfl⟩
      rw [← hs] at e1
      have hmem : s ∈ ws := by rw [hs]; exact mem_getD hlt'
      have HST := Lib.hid (all_take_succ okWd [] ws hlt')
      rw [← hs, hall, Bool.true_and] at HST
      have HL := Lib.hid (HS.out s hmem)
      clear hs hmem hall hlt'
      go_wp2_with fail
      refine (wordR_any s _ HL.out).mono ?_
      rintro e w2 ⟨rfl, hx⟩
      have HX := Lib.hid (hin.out.trans hx)
      clear hx hin e1
      cases hw : okWd s
      · have HW := Lib.hid hw
        clear hw
        go_wp2
        go_ret
        have hf : okWs ws = false := by
          rw [HW.out] at HST
          have h5 := HST.out
          unfold okWs
          rw [Bool.and_eq_false_iff]
          right
          rw [List.all_eq_false] at h5 ⊢
          obtain ⟨x, hx, hx2⟩ := h5
          exact ⟨x, List.mem_of_mem_take hx, hx2⟩
        rw [hf]
        exact ⟨rfl, HX.out⟩
      · rw [hw] at HST
        clear hw
        go_wp2
        go_roundw
        case rel => exact ⟨k + 1, by go_num, by omega, HST.out, HX⟩
        case measure => simp [intOf]; omega
    · obtain rfl : k = n := by omega
      have hall2 : ws.all okWd = true := by rw [HN.out, List.take_length] at hall; exact hall
      have hok : okWs ws = decide (1 ≤ k ∧ k ≤ 4) := by unfold okWs; rw [hall2, Bool.and_true, HN.out]
      have HOK := Lib.hid hok
      clear hall hall2 hok
      by_cases h1 : (1 : Int) ≤ k
      · by_cases h4 : (k : Int) ≤ 4
        · go_wp2
          go_ret
          exact ⟨by rw [HOK.out, decide_eq_true (show 1 ≤ k ∧ k ≤ 4 by omega)]; rfl, hin.out⟩
        · go_wp2
          go_ret
          exact ⟨by rw [HOK.out, decide_eq_false (show ¬ (1 ≤ k ∧ k ≤ 4) by omega)]; rfl, hin.out⟩
      · go_wp2
        go_ret
        exact ⟨by rw [HOK.out, decide_eq_false (show ¬ (1 ≤ k ∧ k ≤ 4) by omega)]; rfl, hin.out⟩

set_option maxHeartbeats 4000000 in
set_option maxRecDepth 100000 in
theorem sizeR_any (ws : List Bw.Word) (V : Value) (W : World) (hV : Sl W V ws) (h8 : ∀ w ∈ ws, w.length ≤ 8) (h4 : ws.length ≤ 4) :
    Calls Tryd.prog 61 #[V] W fun e W' => e = .returned (.int .i64 (Bw.sz ws : Nat)) ∧ W' = W := by
  have HV := Lib.hid hV; have H8 := Lib.hid h8; have H4 := Lib.hid h4
  clear h8 h4
  obtain ⟨A, c, rfl, hac, hcm, -⟩ := hV
  obtain ⟨n, hn⟩ : ∃ n, n = ws.length := ⟨_, rfl⟩
  have HN := Lib.hid hn
  rw [← hn] at hac ⊢
  clear hn
  go_enter Tryd.func61, Tryd.ntmps61
  go_wp2_with fail
  go_loopw [3, 8] (fun x i wr => ∃ k z : Nat, i = .int .i64 k ∧ k ≤ n ∧ x = .int .i64 z ∧ Hid (z = Bw.sz (ws.take k)) ∧ wr = W) (fun _ i _ => n - (intOf i).toNat)
  case atStart => exact ⟨0, 1, rfl, Nat.zero_le _, rfl, Lib.hid rfl, rfl⟩
  case round =>
    obtain ⟨k, z, rfl, hk, rfl, hz, rfl⟩ := hrel
    by_cases hlt : k < n
    · have hlt' : k < ws.length := by rw [← HN.out]; exact hlt
      obtain ⟨b1, o1, rfl, -, e1⟩ := Vl.at HV.out (Ext.refl _) hlt'
      obtain ⟨s, hs⟩ : ∃ s, s = ws.getD k [] := ⟨_, rfl⟩
      rw [← hs] at e1
      have hsl : s.length ≤ 8 := by rw [hs]; exact H8.out _ (mem_getD hlt')
      have hz0 : z ≤ 6561 := by rw [hz.out]; exact sz_take_le H8.out H4.out k
      have hst : z * (s.length + 1) = Bw.sz (ws.take (k + 1)) := by rw [sz_take ws k hlt', ← hs, hz.out]
      obtain ⟨m, hm⟩ : ∃ m, m = s.length := ⟨_, rfl⟩
      have hz2 : z * (m + 1) ≤ 6561 * 9 := Nat.mul_le_mul hz0 (by omega)
      obtain ⟨y, hy⟩ : ∃ y, y = z * (m + 1) := ⟨_, rfl⟩
      have hy2 : (z : Int) * ((m : Int) + 1) = y := by rw [hy]; simp
      have hw1 : IntKind.i64.wrap ((z : Int) * ((m : Int) + 1)) = y := by rw [hy2]; exact IntWalk.i64_in _ (by omega)
      have HST := Lib.hid (show y = Bw.sz (ws.take (k + 1)) by rw [hy, hm]; exact hst)
      rw [← hm] at hsl
      have hw0 : IntKind.i64.wrap ((m : Int) + 1) = (m : Int) + 1 := IntWalk.i64_in _ (by omega)
      clear hz2 hst hs hlt' hy hy2
      rw [hm] at hw0 hw1
      go_wp2
      go_roundw
      case rel => exact ⟨k + 1, y, by go_num, by omega, rfl, HST, trivial⟩
      case measure => simp [intOf]; omega
    · obtain rfl : k = n := by omega
      go_wp2
      go_ret
      have := hz.out
      rw [HN.out, List.take_length] at this
      exact ⟨by rw [this]; rfl, rfl⟩

theorem extract_bytes (l : List UInt8) (i j : Nat) : (⟨l.toArray⟩ : ByteArray).extract i j = ⟨((l.drop i).take (j - i)).toArray⟩ := by
  apply ByteArray.ext
  rw [ByteArray.data_extract]
  simp
theorem slice_tail (x : UInt8) (u : List UInt8) (h : (x :: u).length ≤ 1000) (W : World) : (Instr.slice 9 (.string ⟨(x :: u).toArray⟩) (some (.int .i64 1)) none none).run Tryd.prog W = .ok (.string ⟨u.toArray⟩) W := by
  have hz : (⟨(x :: u).toArray⟩ : ByteArray).size = u.length + 1 := rfl
  rw [run_slice_string_l (ht := Tryd.underlying9) (h0 := by omega) (h1 := by rw [hz]; omega), extract_bytes, hz]
  simp
theorem run1_stuck (w : Bw.Word) (s : List UInt8) : Bw.run1 w w.length s = w.length := by
  induction s with
  | nil => rfl
  | cons c s ih =>
    have : w.length + Bw.dl w w.length c = w.length := by unfold Bw.dl; rw [if_neg (by simp)]; omega
    show Bw.run1 w (w.length + Bw.dl w w.length c) s = w.length
    rw [this]; exact ih
theorem run1_take (w : Bw.Word) (s : List UInt8) {k : Nat} (hk : k < s.length) : Bw.run1 w 0 (s.take (k + 1)) = Bw.run1 w 0 (s.take k) + Bw.dl w (Bw.run1 w 0 (s.take k)) (s.getD k 0) := by
  rw [List.take_succ_eq_append_getElem hk, Bw.run1, List.foldl_append, List.getD_eq_getElem?_getD, List.getElem?_eq_getElem hk]; rfl
theorem run1_le (w : Bw.Word) (s : List UInt8) : ∀ a, a ≤ w.length → Bw.run1 w a s ≤ w.length := by
  induction s with
  | nil => intro a h; exact h
  | cons c s ih => intro a h; exact ih _ (Bw.dl_room w a c h)
theorem run1_app (w : Bw.Word) (s t : List UInt8) (a : Nat) : Bw.run1 w a (s ++ t) = Bw.run1 w (Bw.run1 w a s) t := by simp [Bw.run1]

set_option maxHeartbeats 4000000 in
set_option maxRecDepth 100000 in
theorem coversR1_any (s : List UInt8) (w : Bw.Word) (W : World) (hs : s.length ≤ 1000) (hw : w.length ≤ 1000) :
    Calls Tryd.prog 53 #[.string ⟨s.toArray⟩, .string ⟨w.toArray⟩] W fun e W' => e = .returned (.bool (decide (Bw.run1 w 0 s = w.length))) ∧ Ext W W' := by
  obtain ⟨n, hn⟩ : ∃ n, n = s.length := ⟨_, rfl⟩
  have HN := Lib.hid hn
  go_enter Tryd.func53, Tryd.ntmps53
  go_wp2_with fail
  go_loopw [5, 1] (fun i v wr => ∃ (k : Nat) (u : List UInt8), i = .int .i64 k ∧ k ≤ n ∧ v = .string ⟨u.toArray⟩ ∧ u.length ≤ 1000 ∧ Hid (u = w.drop (Bw.run1 w 0 (s.take k))) ∧ Hid (Ext W wr)) (fun i _ _ => n - (intOf i).toNat)
  case atStart => exact ⟨0, w, rfl, Nat.zero_le _, rfl, hw, Lib.hid (by simp [Bw.run1]), Lib.hid (Ext.refl _)⟩
  case round =>
    obtain ⟨k, u, rfl, hk, rfl, hul, hu, hin⟩ := hrel
    have hale := run1_le w (s.take k) 0 (Nat.zero_le _)
    by_cases hlt : k < s.length
    · cases u with
      | nil =>
        have ha : Bw.run1 w 0 (s.take k) = w.length := by
          have := congrArg List.length hu.out
          rw [List.length_drop, List.length_nil] at this; omega
        have hfin : Bw.run1 w 0 s = w.length := by
          rw [← List.take_append_drop k s, run1_app, ha]; exact run1_stuck w _
        have HF := Lib.hid hfin
        clear hfin ha hale
        go_wp2
        go_ret
        exact ⟨by rw [decide_eq_true HF.out]; rfl, hin.out⟩
      | cons x u =>
        have htk := run1_take w s hlt
        have hx : w[Bw.run1 w 0 (s.take k)]? = some x := by
          have := congrArg (fun l => l[0]?) hu.out
          rw [List.getElem?_drop] at this
          simpa using this.symm
        have hu' : u = w.drop (Bw.run1 w 0 (s.take k) + 1) := by
          have := congrArg (List.drop 1) hu.out
          rw [List.drop_drop] at this
          simpa using this
        obtain ⟨d, hd⟩ : ∃ d, d = s.getD k 0 := ⟨_, rfl⟩
        rw [← hd] at htk
        have hidx : ∀ h : k < (⟨s.toArray⟩ : ByteArray).size, (⟨s.toArray⟩ : ByteArray)[k] = d := fun h => by
          have e : (⟨s.toArray⟩ : ByteArray)[k] = s[k] := rfl
          rw [e, hd, List.getD_eq_getElem?_getD, List.getElem?_eq_getElem hlt]; rfl
        have hidx0 : ∀ h : 0 < (⟨(x :: u).toArray⟩ : ByteArray).size, (⟨(x :: u).toArray⟩ : ByteArray)[0] = x := fun h => rfl
        have hkn : k < n := by omega
        have HF := Lib.hid (And.intro htk (And.intro hx hu'))
        clear htk hx hu' hd hale
        go_upto_region 4 with fail
        go_region
        clear hidx hidx0
        have hin2 : Hid (Ext W wr.drew) := Lib.hid hin.out.drw
        generalize wr.drew = w9 at *
        by_cases hdx : d = x
        · have hb : ((d.toNat : Int) == (x.toNat : Int)) = true := by rw [hdx]; simp
          have hdl : Bw.run1 w 0 (s.take (k + 1)) = Bw.run1 w 0 (s.take k) + 1 := by
            rw [HF.out.1]; unfold Bw.dl; rw [if_pos (by rw [HF.out.2.1, hdx])]
          have hsl : ∀ W, (Instr.slice 9 (.string ⟨(x :: u).toArray⟩) (some (.int .i64 1)) none none).run Tryd.prog W = .ok (.string ⟨u.toArray⟩) W := fun W => slice_tail x u hul W
          have HD := Lib.hid hdl
          clear hdl hdx
          go_wp2
          go_roundw
          case rel => exact ⟨k + 1, u, by go_num, by omega, rfl, by simp only [List.length_cons] at hul; omega, Lib.hid (by rw [HD.out]; exact HF.out.2.2), hin2⟩
          case measure => simp [intOf]; omega
        · have hb : ((d.toNat : Int) == (x.toNat : Int)) = false := by
            simp only [beq_eq_false_iff_ne, ne_eq]
            intro h
            exact hdx (UInt8.toNat_inj.1 (by omega))
          have hdl : Bw.run1 w 0 (s.take (k + 1)) = Bw.run1 w 0 (s.take k) := by
            rw [HF.out.1]; unfold Bw.dl; rw [if_neg (by rw [HF.out.2.1]; intro h; injection h with h; exact hdx h.symm), Nat.add_zero]
          have HD := Lib.hid hdl
          clear hdl hdx
          go_wp2
          go_roundw
          case rel => exact ⟨k + 1, x :: u, by go_num, by omega, rfl, hul, Lib.hid (by rw [HD.out]; exact hu.out), hin2⟩
          case measure => simp [intOf]; omega
    · obtain rfl : k = n := by omega
      have ht : s.take k = s := by rw [hn]; exact List.take_length
      rw [ht] at hu hale
      have hnl : ¬ (k : Int) < s.length := by omega
      have hue : u.isEmpty = decide (Bw.run1 w 0 s = w.length) := by
        have h1 := congrArg List.length hu.out
        rw [List.length_drop] at h1
        rw [Bool.eq_iff_iff, List.isEmpty_iff, decide_eq_true_eq, ← List.length_eq_zero_iff]
        omega
      have HUE := Lib.hid hue
      clear ht hue hale
      go_wp2
      go_ret
      exact ⟨by rw [← HUE.out]; rfl, hin.out⟩
end Go.Proofs.YtlachbodibajlaaDoor
namespace Go.Proofs.YtlachbodibajlaaDoor
open Go.RowKit Go.Shelf

set_option maxHeartbeats 4000000 in
set_option maxRecDepth 100000 in
theorem movedR_any (ws : List Bw.Word) (p : Nat) (d : UInt8) (V : Value) (W : World) (hV : Sl W V ws) (h8 : ∀ w ∈ ws, w.length ≤ 8) (h4 : ws.length ≤ 4) (hp : p < Bw.sz ws) :
    Calls Tryd.prog 57 #[V, .int .i64 p, .int .u8 d.toNat] W fun e W' => e = .returned (.tuple #[.int .i64 (Bw.mv ws p d : Nat), .bool (decide (Bw.mv ws p d ≠ p))]) ∧ W' = W := by
  have HV := Lib.hid hV; have H8 := Lib.hid h8; have H4 := Lib.hid h4
  have hmv := Nat.lt_of_lt_of_le (Bw.mv_lt ws p d hp) (Bw.sz_le ws h4 h8)
  have hpl := Nat.lt_of_lt_of_le hp (Bw.sz_le ws h4 h8)
  clear h8 h4
  obtain ⟨A, c, rfl, hac, hcm, -⟩ := hV
  obtain ⟨n, hn⟩ : ∃ n, n = ws.length := ⟨_, rfl⟩
  have HN := Lib.hid hn
  rw [← hn] at hac ⊢
  obtain ⟨M, hM⟩ : ∃ M, M = Bw.mv ws p d := ⟨_, rfl⟩
  rw [← hM] at hmv ⊢
  have HM := Lib.hid hM
  have hdn : d.toNat < 256 := d.toNat_lt
  clear hn hM hp
  go_enter Tryd.func57, Tryd.ntmps57
  go_wp2_with fail
  go_loopw [10, 9, 8, 18] (fun x y l i wr => ∃ k tq unit left : Nat, i = .int .i64 k ∧ k ≤ n ∧ x = .int .i64 tq ∧ y = .int .i64 unit ∧ l = .int .i64 left ∧ left ≤ p ∧ Hid (unit = Bw.sz (ws.take k)) ∧ Hid (tq + unit * Bw.mvd (ws.drop k) left d = M) ∧ wr = W) (fun _ _ _ i _ => n - (intOf i).toNat)
  case atStart => exact ⟨0, p, 1, p, rfl, Nat.zero_le _, rfl, rfl, rfl, Nat.le_refl _, Lib.hid rfl, Lib.hid (by rw [HM.out, List.drop_zero, Nat.one_mul]; rfl), rfl⟩
  case round =>
    obtain ⟨k, tq, unit, left, rfl, hk, rfl, rfl, rfl, hleft, hu, hto, rfl⟩ := hrel
    by_cases hlt : k < n
    · have hlt' : k < ws.length := by rw [← HN.out]; exact hlt
      obtain ⟨b1, o1, rfl, -, e1⟩ := Vl.at HV.out (Ext.refl _) hlt'
      obtain ⟨s, hs⟩ : ∃ s, s = ws.getD k [] := ⟨_, rfl⟩
      rw [← hs] at e1
      have hsl : s.length ≤ 8 := by rw [hs]; exact H8.out _ (mem_getD hlt')
      have hz0 : unit ≤ 6561 := by rw [hu.out]; exact sz_take_le H8.out H4.out k
      have hst : unit * (s.length + 1) = Bw.sz (ws.take (k + 1)) := by rw [sz_take ws k hlt', ← hs, hu.out]
      have hto2 := hto.out
      rw [drop_getD (d := []) hlt', ← hs, Bw.mvd, Nat.mul_add, ← Nat.mul_assoc] at hto2
      have hto3 : tq ≤ M := by omega
      obtain ⟨at_, hat⟩ : ∃ a, a = left % (s.length + 1) := ⟨_, rfl⟩
      obtain ⟨lf, hlf⟩ : ∃ a, a = left / (s.length + 1) := ⟨_, rfl⟩
      rw [← hat, ← hlf] at hto2
      have hatl : at_ ≤ s.length := by rw [hat]; exact Bw.mod_le s left
      have hlf2 : lf ≤ p := by rw [hlf]; exact Nat.le_trans (Nat.div_le_self _ _) hleft
      have hr1 : (left : Int).tmod ((s.length : Int) + 1) = at_ := by rw [hat]; exact Int.ofNat_tmod left (s.length + 1)
      have hr2 : (left : Int).tdiv ((s.length : Int) + 1) = lf := by rw [hlf]; exact Int.ofNat_tdiv left (s.length + 1)
      obtain ⟨y, hy⟩ : ∃ y, y = unit * (s.length + 1) := ⟨_, rfl⟩
      have hz2 : y ≤ 6561 * 9 := by rw [hy]; exact Nat.mul_le_mul hz0 (by omega)
      have hy2 : (unit : Int) * ((s.length : Int) + 1) = y := by rw [hy]; simp
      have hw1 : IntKind.i64.wrap ((unit : Int) * ((s.length : Int) + 1)) = y := by rw [hy2]; exact IntWalk.i64_in _ (by omega)
      have HST := Lib.hid (show y = Bw.sz (ws.take (k + 1)) by rw [hy]; exact hst)
      rw [← hy] at hto2
      have hw0 : IntKind.i64.wrap ((s.length : Int) + 1) = (s.length : Int) + 1 := IntWalk.i64_in _ (by omega)
      have hw2 : IntKind.i64.wrap (at_ : Int) = at_ := IntWalk.i64_in _ (by omega)
      have hw3 : IntKind.i64.wrap (lf : Int) = lf := IntWalk.i64_in _ (by omega)
      clear hst hs hlt' hy hy2 hat hlf
      by_cases hal : at_ < s.length
      · clear hto3
        go_wp2
        · rename_i hb
          rw [byte_is] at hb
          rw [dl_is s at_ d _ hb, if_pos rfl, Nat.mul_one] at hto2
          go_roundw
          case rel => exact ⟨k + 1, tq + unit, y, lf, by go_num, by omega, by go_num, rfl, rfl, hlf2, HST, Lib.hid (by omega), trivial⟩
          case measure => simp [intOf]; omega
        · rename_i hb
          rw [byte_is] at hb
          rw [dl_is s at_ d _ hb, if_neg (by decide), Nat.mul_zero, Nat.zero_add] at hto2
          go_roundw
          case rel => exact ⟨k + 1, tq, y, lf, by go_num, by omega, rfl, rfl, rfl, hlf2, HST, Lib.hid hto2, trivial⟩
          case measure => simp [intOf]; omega
      · have hdl : Bw.dl s at_ d = 0 := by
          unfold Bw.dl
          rw [if_neg (by rw [List.getElem?_eq_none (by omega)]; simp)]
        rw [hdl, Nat.mul_zero, Nat.zero_add] at hto2
        clear hdl
        go_wp2
        go_roundw
        case rel => exact ⟨k + 1, tq, y, lf, by go_num, by omega, rfl, rfl, rfl, hlf2, HST, Lib.hid hto2, trivial⟩
        case measure => simp [intOf]; omega
    · obtain rfl : k = n := by omega
      have htm := hto.out
      rw [HN.out, List.drop_length, Bw.mvd, Nat.mul_zero, Nat.add_zero] at htm
      rw [htm]
      have hne : ((M : Int) != (p : Int)) = decide (M ≠ p) := by
        rw [Bool.eq_iff_iff, bne_iff_ne, decide_eq_true_eq]; omega
      clear htm
      go_wp2
      refine bodyPost_ret (v := .tuple #[.int .i64 M, .bool (decide (M ≠ p))]) (by simp [results, Tryd.results57, go_sem]) rfl ?_
      exact ⟨rfl, rfl⟩

theorem cv_all (s : List UInt8) (ws : List Bw.Word) : (ws.all fun w => decide (Bw.run1 w 0 s = w.length)) = decide (Bw.run ws 0 s = Bw.last ws) := by
  rw [Bool.eq_iff_iff, decide_eq_true_eq, Bw.run_last, List.all_eq_true]
  constructor
  · intro h w hw; exact of_decide_eq_true (h w hw)
  · intro h w hw; exact decide_eq_true (h w hw)

set_option maxHeartbeats 4000000 in
set_option maxRecDepth 100000 in
theorem coversR_any (s : List UInt8) (ws : List Bw.Word) (V : Value) (W : World) (hV : Sl W V ws) (hs : Sm ws) (hl : s.length ≤ 9223372036854775807) :
    Calls Tryd.prog 16 #[.string ⟨s.toArray⟩, V] W fun e W' => e = .returned (.tuple #[.bool (cvB s ws), .int .i64 (cvE s ws)]) ∧ Ext W W' := by
  have HV := Lib.hid hV; have HL := Lib.hid hl; have HSM := Lib.hid hs
  obtain ⟨A, c, rfl, hac, hcm, -⟩ := hV
  clear hl hs
  by_cases h40 : (40 : Int) < s.length
  · have hf : okT s ws = false := by unfold okT; rw [decide_eq_false (show ¬ s.length ≤ 40 by omega), Bool.false_and, Bool.and_false]
    have h1 : cvB s ws = false := by unfold cvB; rw [hf]; rfl
    have h2 : cvE s ws = 2 := by unfold cvE; rw [hf]; rfl
    rw [h1, h2]
    clear h1 h2 hf
    go_enter Tryd.func16, Tryd.ntmps16
    go_wp2
    refine bodyPost_ret (v := .tuple #[.bool false, .int .i64 2]) (by simp [results, Tryd.results16, go_sem]) rfl ?_
    exact ⟨rfl, Ext.refl _⟩
  go_enter Tryd.func16, Tryd.ntmps16
  go_wp2_with fail
  refine (trim_any s _ HL.out).mono ?_
  rintro e w1 ⟨rfl, hx⟩
  have HX := Lib.hid hx
  clear hx
  have hte := trim_empty s
  obtain ⟨T, hT⟩ : ∃ T, T = Lib.trimS s Bw.letters := ⟨_, rfl⟩
  rw [← hT] at hte ⊢
  cases hok : okL s
  · rw [hok] at hte
    have hf : okT s ws = false := by unfold okT; rw [hok, Bool.and_false, Bool.and_false]
    have h1 : cvB s ws = false := by unfold cvB; rw [hf]; rfl
    have h2 : cvE s ws = 2 := by unfold cvE; rw [hf]; rfl
    have H12 := Lib.hid (And.intro h1 h2)
    clear h1 h2 hf hok hT
    go_wp2
    refine bodyPost_ret (v := .tuple #[.bool false, .int .i64 2]) (by simp [results, Tryd.results16, go_sem]) rfl ?_
    exact ⟨by rw [H12.out.1, H12.out.2], HX.out⟩
  · rw [hok] at hte
    have HOK := Lib.hid hok
    clear hok hT
    go_wp2_with fail
    refine (wordsR_any ws _ _ (HV.out.ext HX.out) HSM.out).mono ?_
    rintro e w2 ⟨rfl, hx⟩
    replace HX := Lib.hid (HX.out.trans hx)
    clear hx hte
    cases hw : okWs ws
    · have hf : okT s ws = false := by unfold okT; rw [hw, Bool.false_and]
      have h1 : cvB s ws = false := by unfold cvB; rw [hf]; rfl
      have h2 : cvE s ws = 2 := by unfold cvE; rw [hf]; rfl
      have H12 := Lib.hid (And.intro h1 h2)
      clear h1 h2 hf hw
      go_wp2
      refine bodyPost_ret (v := .tuple #[.bool false, .int .i64 2]) (by simp [results, Tryd.results16, go_sem]) rfl ?_
      exact ⟨by rw [H12.out.1, H12.out.2], HX.out⟩
    · have hf : okT s ws = true := by unfold okT; rw [hw, HOK.out, decide_eq_true (show s.length ≤ 40 by omega)]; rfl
      have h1 : cvB s ws = (ws.all fun w => decide (Bw.run1 w 0 s = w.length)) := by unfold cvB; rw [hf, Bool.true_and, cv_all]
      have h2 : cvE s ws = 0 := by unfold cvE; rw [if_pos hf]
      have H12 := Lib.hid (And.intro h1 h2)
      obtain ⟨-, h4, h8, -⟩ := okWs_iff.1 hw
      have H8 := Lib.hid h8
      have hs40 : s.length ≤ 40 := by omega
      clear h1 h2 hf hw h8 h40
      obtain ⟨n, hn⟩ : ∃ n, n = ws.length := ⟨_, rfl⟩
      have HN := Lib.hid hn
      go_wp2_with fail
      go_loopw [6, 24] (fun x i wr => ∃ (k : Nat) (b : Bool), i = .int .i64 k ∧ k ≤ n ∧ x = .bool b ∧ Hid (b = ((ws.take k).all fun w => decide (Bw.run1 w 0 s = w.length))) ∧ Hid (Ext W wr)) (fun _ i _ => n - (intOf i).toNat)
      case atStart => exact ⟨0, true, rfl, Nat.zero_le _, rfl, Lib.hid rfl, HX⟩
      case round =>
        obtain ⟨k, b, rfl, hk, rfl, hb, hin⟩ := hrel
        by_cases hlt : k < ws.length
        · obtain ⟨b1, o1, rfl, -, e1⟩ := Vl.at HV.out hin.out hlt
          obtain ⟨w, hw⟩ : ∃ w, w = ws.getD k [] := ⟨_, rfl⟩
          rw [← hw] at e1
          have hw8 : w.length ≤ 8 := by rw [hw]; exact H8.out _ (mem_getD hlt)
          have hst := all_take_succ (fun w => decide (Bw.run1 w 0 s = w.length)) [] ws hlt
          rw [← hw, ← hb.out] at hst
          have HST := Lib.hid hst
          have hkn : k < n := by omega
          clear hst hw
          cases b
          · go_wp2
            go_roundw
            case rel => exact ⟨k + 1, false, by go_num, by omega, rfl, Lib.hid (by rw [HST.out]; rfl), hin⟩
            case measure => simp [intOf]; omega
          · go_wp2_with fail
            refine (coversR1_any s w _ (by omega) (by omega)).mono ?_
            rintro e w3 ⟨rfl, hx⟩
            have HX3 := Lib.hid (hin.out.trans hx)
            clear hx e1
            go_wp2
            go_roundw
            case rel => exact ⟨k + 1, _, by go_num, by omega, rfl, Lib.hid (by rw [HST.out]; rfl), HX3⟩
            case measure => simp [intOf]; omega
        · obtain rfl : k = n := by omega
          have hnl : ¬ (k : Int) < ws.length := by omega
          have ht : ws.take k = ws := by rw [hn]; exact List.take_length
          rw [ht] at hb
          clear ht
          go_wp2
          refine bodyPost_ret (v := .tuple #[.bool b, .int .i64 0]) (by simp [results, Tryd.results16, go_sem]) rfl ?_
          exact ⟨by rw [H12.out.1, H12.out.2, ← hb.out], hin.out⟩
end Go.Proofs.YtlachbodibajlaaDoor
