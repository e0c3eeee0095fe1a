/- Walks: Shortest, Count of the reference. · Common: the keeper of strings, what holds of it. · Walks: awake; the law BathShortest. -/
import Derived.Test.YtlachbodibajlaaDoorM7
import Derived.Test.YtlachbodibajlaaDoorM5
import Derived.Test.YtlachbodibajlaaDoorM6
namespace Go.Proofs.YtlachbodibajlaaDoor
open Go.RowKit Go.Shelf

theorem slice_letter {k : Nat} (hk : k < 8) (W : World) : (Instr.slice 9 (.string ⟨#[97, 98, 99, 100, 101, 102, 103, 104]⟩) (some (.int .i64 (k : Int))) (some (.int .i64 ((k : Int) + 1))) none).run Tryd.prog W = .ok (.string ⟨#[lt k]⟩) W := by
  have hz : (⟨#[97, 98, 99, 100, 101, 102, 103, 104]⟩ : ByteArray).size = 8 := rfl
  rw [run_slice_string (h := Tryd.underlying9) (h0 := by omega) (h1 := by omega) (h2 := by rw [hz]; omega)]
  have e1 : ((k : Int)).toNat = k := by omega
  have e2 : ((k : Int) + 1).toNat = k + 1 := by omega
  rw [e1, e2]
  have : ∀ k : Fin 8, (⟨#[97, 98, 99, 100, 101, 102, 103, 104]⟩ : ByteArray).extract k.1 (k.1 + 1) = ⟨#[lt k.1]⟩ := by decide
  rw [this ⟨k, hk⟩]
theorem snoc_bytes (s : List UInt8) (c : UInt8) : (⟨s.toArray⟩ : ByteArray) ++ ⟨#[c]⟩ = ⟨(s ++ [c]).toArray⟩ := by
  apply ByteArray.ext
  simp [ByteArray.data_append]

set_option maxHeartbeats 4000000 in
set_option maxRecDepth 100000 in
theorem countR_any (ws : List Bw.Word) (V : Value) (W : World) (hV : Sl W V ws) (hs : Sm ws) :
    Calls Tryd.prog 21 #[V] W fun e W' => e = .returned (.tuple #[.int .i64 (shN ws : Nat), .int .i64 (shE ws)]) ∧ Ext W W' := by
  have HV := Lib.hid hV
  obtain ⟨A, c, rfl, hac, hcm, -⟩ := hV
  go_enter Tryd.func21, Tryd.ntmps21
  go_wp2_with fail
  refine (wordsR_any ws _ _ HV.out hs).mono ?_
  rintro e w1 ⟨rfl, hx⟩
  have HX := Lib.hid hx; clear hx
  cases hw : okWs ws
  · have h1 : shN ws = 0 := by unfold shN; rw [hw]; rfl
    have h2 : shE ws = 2 := by unfold shE; rw [hw]; rfl
    have H12 := Lib.hid (And.intro h1 h2)
    clear h1 h2
    go_wp2
    refine bodyPost_ret (v := .tuple #[.int .i64 0, .int .i64 2]) (by simp [results, Tryd.results21, go_sem]) rfl ?_
    exact ⟨by rw [H12.out.1, H12.out.2]; rfl, HX.out⟩
  · have h1 : shN ws = (Bw.rest ws 0).2 := by unfold shN; rw [if_pos hw]
    have h2 : shE ws = 0 := by unfold shE; rw [if_pos hw]
    have H12 := Lib.hid (And.intro h1 h2)
    have HW := Lib.hid hw
    have hz := Bw.sz_pos ws
    obtain ⟨N, hN⟩ : ∃ N, N = Bw.sz ws := ⟨_, rfl⟩
    obtain ⟨-, h4, h8, -⟩ := okWs_iff.1 hw
    have hzl := Bw.sz_le ws h4 h8
    clear h1 h2 h4 h8
    go_wp2_with fail
    refine (tableR_any ws _ _ (HV.out.ext HX.out) HW.out).mono ?_
    rintro e w2 ⟨gt, gc, rfl, l1, l2, hne, hT, hC, hx⟩
    rw [← hN] at hT hC hz hzl ⊢
    have c0 := Bk.cell hC hz
    have z0 := Bk.lt hC
    dsimp only at c0
    obtain ⟨v, hv⟩ : ∃ v, v = (Bw.rest ws 0).2 := ⟨_, rfl⟩
    rw [← hv] at c0
    have HF := Lib.hid (And.intro hv (HX.out.trans hx))
    clear hT hC hx hv hN
    go_wp2
    refine bodyPost_ret (v := .tuple #[.int .i64 v, .int .i64 0]) (by simp [results, Tryd.results21, go_sem]) rfl ?_
    exact ⟨by rw [H12.out.1, H12.out.2, ← HF.out.1], HF.out.2⟩

set_option maxHeartbeats 4000000 in
set_option maxRecDepth 100000 in
theorem shortestR_any (ws : List Bw.Word) (V : Value) (W : World) (hV : Sl W V ws) (hs : Sm ws) :
    Calls Tryd.prog 19 #[V] W fun e W' => e = .returned (.tuple #[.string ⟨(shS ws).toArray⟩, .int .i64 (shE ws)]) ∧ Ext W W' := by
  have HV := Lib.hid hV
  obtain ⟨A, c, rfl, hac, hcm, -⟩ := hV
  go_enter Tryd.func19, Tryd.ntmps19
  go_wp2_with fail
  refine (wordsR_any ws _ _ HV.out hs).mono ?_
  rintro e w1 ⟨rfl, hx⟩
  have HX := Lib.hid hx; clear hx
  cases hw : okWs ws
  · have h1 : shS ws = [] := by unfold shS; rw [hw]; rfl
    have h2 : shE ws = 2 := by unfold shE; rw [hw]; rfl
    have H12 := Lib.hid (And.intro h1 h2)
    clear h1 h2
    go_wp2
    refine bodyPost_ret (v := .tuple #[.string ⟨#[]⟩, .int .i64 2]) (by simp [results, Tryd.results19, go_sem]) rfl ?_
    exact ⟨by rw [H12.out.1, H12.out.2], HX.out⟩
  · have h1 : shS ws = (Bw.rest ws 0).1 := by unfold shS; rw [if_pos hw]
    have h2 : shE ws = 0 := by unfold shE; rw [if_pos hw]
    have H12 := Lib.hid (And.intro h1 h2)
    have HW := Lib.hid hw
    have hz := Bw.sz_pos ws
    obtain ⟨N, hN⟩ : ∃ N, N = Bw.sz ws := ⟨_, rfl⟩
    obtain ⟨-, h4, h8, hW⟩ := okWs_iff.1 hw
    have hzl := Bw.sz_le ws h4 h8
    have H8 := Lib.hid h8; have H4 := Lib.hid h4; have HOW := Lib.hid hW
    clear h1 h2 h4 h8 hW hs
    go_wp2_with fail
    refine (tableR_any ws _ _ (HV.out.ext HX.out) HW.out).mono ?_
    rintro e w2 ⟨gt, gc, rfl, l1, l2, hne, hT, hC, hx⟩
    have HN := Lib.hid hN
    rw [← hN] at hT hz hzl ⊢
    have HF : Hid (BI w2 gt N (fun j => ((Bw.rest ws j).1.length : Nat)) ∧ Ext W w2) := Lib.hid ⟨hT, HX.out.trans hx⟩
    clear hT hC hx hN
    have hr32 : ∀ p, p < N → (Bw.rest ws p).1.length ≤ 32 := fun p hp => by
      rw [HN.out] at hp
      exact Nat.le_trans (Bw.rest_len HOW.out _ p hp (Nat.le_refl _)) (Bw.rem_zero_le ws H4.out H8.out p)
    have HR := Lib.hid hr32
    clear hr32
    go_wp2_with fail
    go_loopw [6, 7] (fun s q wr => ∃ (t : List UInt8) (p : Nat), s = .string ⟨t.toArray⟩ ∧ q = .int .i64 p ∧ p < N ∧ t.length ≤ 32 ∧ Hid (t ++ (Bw.rest ws p).1 = (Bw.rest ws 0).1) ∧ Hid (Ext w2 wr)) (fun _ q _ => (Bw.rest ws (intOf q).toNat).1.length)
    case atStart => exact ⟨[], 0, rfl, rfl, hz, by simp, Lib.hid rfl, Lib.hid (Ext.refl _)⟩
    case round =>
      obtain ⟨t, p, rfl, rfl, hp, ht, htr, hin⟩ := hrel
      have c0 := Bk.cell (HF.out.1.ext hin.out) hp
      have z0 := Bk.lt (HF.out.1.ext hin.out)
      have hp2 : p < Bw.sz ws := by rw [← HN.out]; exact hp
      have hrz := Bw.rest_zero HOW.out hp2
      obtain ⟨lp, hlp⟩ : ∃ lp, lp = (Bw.rest ws p).1.length := ⟨_, rfl⟩
      dsimp only at c0
      rw [← hlp] at c0 hrz
      have hlp32 : lp ≤ 32 := by rw [hlp]; exact HR.out p hp
      have htl : t.length + lp ≤ 32 := by
        have h1 := congrArg List.length htr.out
        rw [List.length_append, ← hlp] at h1
        have := HR.out 0 hz
        omega
      have HLP := Lib.hid hlp; have HP2 := Lib.hid hp2; have HRZ := Lib.hid hrz; have HTL := Lib.hid htl; have HLP32 := Lib.hid hlp32
      clear hlp hp2 hrz htl hlp32 ht
      by_cases h0 : 0 < lp
      · have hpe : p ≠ Bw.last ws := fun h => by have := HRZ.out.2 h; omega
        have HPE := Lib.hid hpe
        clear hpe
        go_wp2_with fail
        go_loopw [6, 7, 24] (fun s q i wr' => s = .string ⟨t.toArray⟩ ∧ q = .int .i64 p ∧ ∃ k : Nat, i = .int .i64 k ∧ k ≤ 8 ∧ Hid (∀ j d, j < k → Bw.letters[j]? = some d → ¬ Bw.good ws p d) ∧ Hid (Ext w2 wr')) (fun _ _ i _ => 8 - (intOf i).toNat)
        case atStart => exact ⟨rfl, rfl, 0, rfl, by omega, Lib.hid (fun j d hj => by omega), hin⟩
        case round =>
          obtain ⟨rfl, rfl, k, rfl, hk, hno, hin2⟩ := hrel
          by_cases hlt : k < 8
          · have hidx := letters_idx hlt hlt
            have hml := Bw.mv_lt ws p (lt k) HP2.out
            have hlg := lt_get hlt
            by_cases hmv : Bw.mv ws p (lt k) = p
            · have hnx : ∀ j d, j < k + 1 → Bw.letters[j]? = some d → ¬ Bw.good ws p d := fun j d hj hd hg => by
                by_cases e : j = k
                · subst e; rw [hlg] at hd; injection hd with hd; subst hd; exact hg.1 hmv
                · exact hno.out j d (by omega) hd hg
              have HNX := Lib.hid hnx
              clear hnx hml hlg
              go_wp2_with fail
              refine (movedR_any ws p (lt k) _ _ (HV.out.ext (HF.out.2.trans hin2.out)) H8.out H4.out HP2.out).mono ?_
              rintro e w3 ⟨rfl, rfl⟩
              rw [hmv, decide_eq_false (show ¬ (p ≠ p) from fun h => h rfl)]
              clear hmv hidx
              go_wp2_with fail
              go_region
              go_wp2
              go_roundw
              case rel => exact ⟨rfl, rfl, k + 1, by go_num, by omega, HNX, Lib.hid hin2.out.drw⟩
              case measure => simp [intOf]; omega
            · obtain ⟨q, hq⟩ : ∃ q, q = Bw.mv ws p (lt k) := ⟨_, rfl⟩
              have hdq : decide (Bw.mv ws p (lt k) ≠ p) = true := decide_eq_true hmv
              rw [← hq] at hml hmv
              have hqN : q < N := by rw [HN.out]; exact hml
              obtain ⟨lq, hlq⟩ : ∃ lq, lq = (Bw.rest ws q).1.length := ⟨_, rfl⟩
              have hlq32 : lq ≤ 32 := by rw [hlq]; exact HR.out q hqN
              have hgd : Bw.good ws p (lt k) ↔ lq + 1 = lp := by
                unfold Bw.good
                rw [← hq, ← hlq, ← HLP.out]
                exact ⟨fun h => h.2, fun h => ⟨hmv, h⟩⟩
              have HGD := Lib.hid hgd; have HQ := Lib.hid hq; have HLQ := Lib.hid hlq; have HLG := Lib.hid hlg
              clear hgd hq hlq hml hmv hlg
              go_wp2_with fail
              refine (movedR_any ws p (lt k) _ _ (HV.out.ext (HF.out.2.trans hin2.out)) H8.out H4.out HP2.out).mono ?_
              rintro e w3 ⟨rfl, rfl⟩
              rw [hdq, ← HQ.out]
              clear hdq hidx c0 z0
              have c0 := Bk.cell (HF.out.1.ext hin2.out) hp
              have c1 := Bk.cell (HF.out.1.ext hin2.out) hqN
              have z0 := Bk.lt (HF.out.1.ext hin2.out)
              dsimp only at c0 c1
              rw [← HLP.out] at c0
              rw [← HLQ.out] at c1
              go_wp2_with fail
              by_cases heq : lq + 1 = lp
              · have hb : ((lq : Int) + 1 == (lp : Int)) = true := by simp; omega
                have hfirst := Bw.good_first HOW.out HP2.out HPE.out HLG.out (HGD.out.2 heq) hno.out
                have HFI := Lib.hid hfirst
                have hsl := fun W => slice_letter hlt W
                have happ : (⟨t.toArray⟩ : ByteArray) ++ ⟨#[lt k]⟩ = ⟨(t ++ [lt k]).toArray⟩ := snoc_bytes t (lt k)
                clear hfirst
                have htl := HTL.out
                have ht1 : t.length ≤ 31 := by omega
                clear htl
                go_region
                clear c0 c1 z0
                have hin3 : Hid (Ext w2 w3.drew) := Lib.hid hin2.out.drw
                generalize w3.drew = w4 at *
                go_wp2
                go_roundw
                case rel => exact ⟨t ++ [lt k], q, rfl, rfl, hqN, by simp; omega, Lib.hid (by rw [← htr.out, HFI.out, ← HQ.out, List.append_assoc]; rfl), hin3⟩
                case measure =>
                  have h1 := HLP.out
                  have h2 := HLQ.out
                  simp [intOf]; omega
              · have hb : ((lq : Int) + 1 == (lp : Int)) = false := by simp; omega
                have hnx : ∀ j d, j < k + 1 → Bw.letters[j]? = some d → ¬ Bw.good ws p d := fun j d hj hd hg => by
                  by_cases e : j = k
                  · subst e; rw [HLG.out] at hd; injection hd with hd; subst hd; exact heq (HGD.out.1 hg)
                  · exact hno.out j d (by omega) hd hg
                have HNX := Lib.hid hnx
                clear hnx
                go_region
                clear c0 c1 z0
                have hin3 : Hid (Ext w2 w3.drew) := Lib.hid hin2.out.drw
                generalize w3.drew = w4 at *
                go_wp2
                go_roundw
                case rel => exact ⟨rfl, rfl, k + 1, by go_num, by omega, HNX, hin3⟩
                case measure => simp [intOf]; omega
          · obtain rfl : k = 8 := by omega
            obtain ⟨i, d, hi, hd, hg⟩ := Bw.good_some HOW.out HP2.out HPE.out
            exact absurd hg (hno.out i d hi hd)
      · obtain rfl : lp = 0 := by omega
        go_wp2
        refine bodyPost_ret (v := .tuple #[.string ⟨t.toArray⟩, .int .i64 0]) (by simp [results, Tryd.results19, go_sem]) rfl ?_
        refine ⟨?_, HF.out.2.trans hin.out⟩
        have h1 := htr.out
        rw [List.eq_nil_of_length_eq_zero HLP.out.symm, List.append_nil] at h1
        rw [H12.out.1, H12.out.2, h1]
end Go.Proofs.YtlachbodibajlaaDoor
namespace Go.Proofs.YtlachbodibajlaaDoor
open Go.RowKit Go.Shelf

/-- numbers of positions in two words -/
def gz (u v : List UInt8) : Nat := (u.length + 1) * (v.length + 1)
theorem gz_pos (u v : List UInt8) : 0 < gz u v := Nat.mul_pos (by omega) (by omega)
theorem gz_le {u v : List UInt8} (hu : u.length ≤ 8) (hv : v.length ≤ 8) : gz u v ≤ 81 :=
  Nat.le_trans (Nat.mul_le_mul (show u.length + 1 ≤ 9 by omega) (show v.length + 1 ≤ 9 by omega)) (by decide)
/-- the common string of what is left at a number -/
def cv (u v : List UInt8) (p : Nat) : List UInt8 := Bw.cm (u.drop (p % (u.length + 1))) (v.drop (p / (u.length + 1)))
theorem gz_row {u v : List UInt8} {p : Nat} (hp : p < gz u v) : p % (u.length + 1) ≤ u.length ∧ p / (u.length + 1) ≤ v.length := by
  constructor
  · have := Nat.mod_lt p (show 0 < u.length + 1 by omega); omega
  · have : p / (u.length + 1) < v.length + 1 := Nat.div_lt_of_lt_mul hp
    omega
theorem gz_mod {u : List UInt8} {a b : Nat} (ha : a ≤ u.length) : (a + (u.length + 1) * b) % (u.length + 1) = a ∧ (a + (u.length + 1) * b) / (u.length + 1) = b := by
  constructor
  · rw [Nat.add_mul_mod_self_left, Nat.mod_eq_of_lt (by omega)]
  · rw [Nat.add_mul_div_left _ _ (by omega), Nat.div_eq_of_lt (by omega), Nat.zero_add]
theorem gz_at {u v : List UInt8} {a b : Nat} (ha : a ≤ u.length) (hb : b ≤ v.length) : a + (u.length + 1) * b < gz u v := by
  have h1 : (u.length + 1) * b ≤ (u.length + 1) * v.length := Nat.mul_le_mul_left _ hb
  have h2 : gz u v = (u.length + 1) * v.length + (u.length + 1) := by unfold gz; rw [Nat.mul_add, Nat.mul_one]
  omega
theorem cv_at {u v : List UInt8} {a b : Nat} (ha : a ≤ u.length) : cv u v (a + (u.length + 1) * b) = Bw.cm (u.drop a) (v.drop b) := by
  unfold cv; rw [(gz_mod ha).1, (gz_mod ha).2]
theorem cm_le (x y : List UInt8) : (Bw.cm x y).length ≤ x.length := (Bw.cm_cs x y).le_left
theorem cv_le (u v : List UInt8) (p : Nat) : (cv u v p).length ≤ u.length := Nat.le_trans (cm_le _ _) (by rw [List.length_drop]; omega)

/-- the keeper's context -/
structure Kc (u v : List UInt8) (W0 : World) (kb g1 g2 rb ub vb : Nat) : Prop where
  hu : u.length ≤ 8
  hv : v.length ≤ 8
  rb : Boxed W0 rb 3 (.int .i64 ((u.length + 1 : Nat) : Int))
  ub : Boxed W0 ub 9 (.string ⟨u.toArray⟩)
  vb : Boxed W0 vb 9 (.string ⟨v.toArray⟩)
  l1 : W0.heap.size ≤ g1
  l2 : W0.heap.size ≤ g2
  n12 : g1 ≠ g2
  nk1 : kb ≠ g1
  nk2 : kb ≠ g2
/-- its state -/
structure Ks (u v : List UInt8) (W0 : World) (kb g1 g2 rb ub vb : Nat) (X : World) : Prop where
  ext : Ext W0 X
  kbk : X.heap[kb]? = some (.cells #[.func (.func 64) #[] #[.pointer (some ⟨rb, 0, none⟩), .pointer (some ⟨ub, 0, none⟩), .pointer (some ⟨vb, 0, none⟩)], .slice (some ⟨g1, 0, none⟩) (gz u v) (gz u v), .slice (some ⟨g2, 0, none⟩) (gz u v) (gz u v)] 132 (0, 0))
  known : ∃ (kn : Nat → Bool) (a : Nat → List UInt8), BB X g1 (gz u v) kn ∧ Bk X g2 9 (gz u v) (fun p => .string ⟨(a p).toArray⟩) ∧ ∀ p, p < gz u v → kn p = true → a p = cv u v p
section
variable {u v : List UInt8} {W0 X Y : World} {kb g1 g2 rb ub vb : Nat}
theorem Ks.lt (h : Ks u v W0 kb g1 g2 rb ub vb X) : kb < X.heap.size ∧ g1 < X.heap.size ∧ g2 < X.heap.size := by
  obtain ⟨kn, a, h1, h2, -⟩ := h.known
  exact ⟨(Array.getElem?_eq_some_iff.1 h.kbk).1, Bk.lt h1, Bk.lt h2⟩
theorem Ks.move (h : Ks u v W0 kb g1 g2 rb ub vb X) (e : Ext W0 Y) (hb : ∀ b, b = kb ∨ b = g1 ∨ b = g2 → Y.heap[b]? = X.heap[b]?) : Ks u v W0 kb g1 g2 rb ub vb Y := by
  obtain ⟨kn, a, h1, h2, h3⟩ := h.known
  exact ⟨e, (hb kb (by simp)).trans h.kbk, kn, a, (hb g1 (by simp)).trans h1, (hb g2 (by simp)).trans h2, h3⟩
theorem Ks.ext' (h : Ks u v W0 kb g1 g2 rb ub vb X) (e : Ext X Y) : Ks u v W0 kb g1 g2 rb ub vb Y :=
  h.move (h.ext.trans e) (fun b hb => e.block b (by have := h.lt; omega))
theorem Ks.drw (h : Ks u v W0 kb g1 g2 rb ub vb X) : Ks u v W0 kb g1 g2 rb ub vb X.drew := h.ext' (Ext.drw (Ext.refl _))
end
/-- the contracts of the keeper and of its rule -/
def OfC (u v : List UInt8) (W0 : World) (kb g1 g2 rb ub vb q : Nat) : Prop := ∀ X, Ks u v W0 kb g1 g2 rb ub vb X →
  Calls Tryd.prog 66 #[.pointer (some ⟨kb, 0, none⟩), .int .i64 q] X fun e X' => e = .returned (.string ⟨(cv u v q).toArray⟩) ∧ Kq g1 g2 X X' ∧ Ks u v W0 kb g1 g2 rb ub vb X'
def RuleC (u v : List UInt8) (W0 : World) (kb g1 g2 rb ub vb q : Nat) : Prop := ∀ X, Ks u v W0 kb g1 g2 rb ub vb X →
  Calls Tryd.prog 64 #[.func (.func 66) #[.pointer (some ⟨kb, 0, none⟩)] #[], .int .i64 q, .pointer (some ⟨rb, 0, none⟩), .pointer (some ⟨ub, 0, none⟩), .pointer (some ⟨vb, 0, none⟩)] X fun e X' => e = .returned (.string ⟨(cv u v q).toArray⟩) ∧ Kq g1 g2 X X' ∧ Ks u v W0 kb g1 g2 rb ub vb X'

set_option maxHeartbeats 4000000 in
set_option maxRecDepth 100000 in
theorem ofC_step (u v : List UInt8) (W0 : World) (kb g1 g2 rb ub vb q : Nat) (hK : Kc u v W0 kb g1 g2 rb ub vb) (hq : q < gz u v) (hR : RuleC u v W0 kb g1 g2 rb ub vb q) : OfC u v W0 kb g1 g2 rb ub vb q := by
  intro W hI
  have HK := Lib.hid hK; have HI := Lib.hid hI; have HR := Lib.hid hR
  have hzl := gz_le hK.hu hK.hv
  obtain ⟨N, hN⟩ : ∃ N, N = gz u v := ⟨_, rfl⟩
  have hkb := hI.kbk
  obtain ⟨kn, a, hB1, hB2, hval⟩ := hI.known
  rw [← hN] at hq hzl hkb hB1 hB2 hval
  have HN := Lib.hid hN
  clear hK hI hR hN
  obtain ⟨t, ht⟩ : ∃ t, t = cv u v q := ⟨_, rfl⟩
  have HT := Lib.hid ht
  have HR2 : Hid (∀ X, Ks u v W0 kb g1 g2 rb ub vb X → Calls Tryd.prog 64 #[.func (.func 66) #[.pointer (some ⟨kb, 0, none⟩)] #[], .int .i64 q, .pointer (some ⟨rb, 0, none⟩), .pointer (some ⟨ub, 0, none⟩), .pointer (some ⟨vb, 0, none⟩)] X fun e X' => e = .returned (.string ⟨t.toArray⟩) ∧ Kq g1 g2 X X' ∧ Ks u v W0 kb g1 g2 rb ub vb X') := Lib.hid (by rw [ht]; exact HR.out)
  clear HR
  rw [← ht]
  clear ht
  have n12 := HK.out.n12; have nk1 := HK.out.nk1; have nk2 := HK.out.nk2
  obtain ⟨k0, k1, k2, kz⟩ := three_c hkb
  have v1 := Bk.cell hB1 hq
  have HB1 := Lib.hid hB1; have HB2 := Lib.hid hB2; have HKB := Lib.hid hkb; have HV := Lib.hid hval
  clear hB1 hB2 hkb hval
  go_enter Tryd.func66, Tryd.ntmps66
  cases hkn : kn q
  · rw [hkn] at v1
    go_wp2_with fail
    refine (HR2.out _ HI.out).mono ?_
    rintro e w2 ⟨rfl, hk2, hi2⟩
    clear k0 k1 k2 kz v1
    obtain ⟨kn', a', hB1, hB2, hval⟩ := hi2.known
    have hkb := hi2.kbk
    rw [← HN.out] at hB1 hB2 hval hkb
    obtain ⟨k0, k1, k2, kz⟩ := three_c hkb
    have uf := Bk.free hB2 q
    have u0 := Bk.cell hB2 hq
    have uz := Bk.lt hB2
    have gB2 : Bk (w2.setCell ⟨g2, q, none⟩ (.string ⟨t.toArray⟩)) g2 9 N (fun p => .string ⟨(up a' q t p).toArray⟩) := Bk.congr (hB2.set_ q _) fun i _ => by unfold up; split <;> rfl
    have gB1 : BB (w2.setCell ⟨g2, q, none⟩ (.string ⟨t.toArray⟩)) g1 N kn' := (heap_far n12).trans hB1
    have gkb := (heap_far (Y := w2) (g := g2) (i := q) (v := .string ⟨t.toArray⟩) nk2).trans hkb
    have gK := hk2.sc (i := q) (.string ⟨t.toArray⟩) (.inr (.inr rfl))
    have gX : Ext W0 (w2.setCell ⟨g2, q, none⟩ (.string ⟨t.toArray⟩)) := hi2.ext.sc HK.out.l2
    have HG := Lib.hid (And.intro gB1 (And.intro gB2 (And.intro gkb (And.intro gK gX))))
    have HV' := Lib.hid hval
    clear hB1 hB2 hval hkb hk2 hi2 gB1 gB2 gkb gK gX
    go_upto_region 4 with fail
    obtain ⟨hB1, hB2, hkb, hk2, hx2⟩ := HG.out
    clear HG
    generalize w2.setCell ⟨g2, q, none⟩ (.string ⟨t.toArray⟩) = w3 at *
    clear k0 k1 k2 kz uf uz u0
    obtain ⟨k0, k1, k2, kz⟩ := three_c hkb
    have v0 := Bk.cell hB1 hq
    have vf := Bk.free hB1 q
    have vz := Bk.lt hB1
    have gB1 := BB.set_ hB1 q true
    have gB2 : Bk (w3.setCell ⟨g1, q, none⟩ (.bool true)) g2 9 N (fun p => .string ⟨(up a' q t p).toArray⟩) := (heap_far (Ne.symm n12)).trans hB2
    have gkb := (heap_far (Y := w3) (g := g1) (i := q) (v := .bool true) nk1).trans hkb
    have gK := hk2.sc (i := q) (.bool true) (.inr (.inl rfl))
    have gX : Ext W0 (w3.setCell ⟨g1, q, none⟩ (.bool true)) := hx2.sc HK.out.l1
    have HG := Lib.hid (And.intro gB1 (And.intro gB2 (And.intro gkb (And.intro gK gX))))
    clear hB1 hB2 hkb hk2 hx2 gB1 gB2 gkb gK gX
    go_upto_region 5 with fail
    obtain ⟨hB1, hB2, hkb, hk2, hx2⟩ := HG.out
    clear HG
    generalize w3.setCell ⟨g1, q, none⟩ (.bool true) = w4 at *
    clear k0 k1 k2 kz vf vz v0
    obtain ⟨k0, k1, k2, kz⟩ := three_c hkb
    have u0 := Bk.cell hB2 hq
    have uz := Bk.lt hB2
    rw [up_self] at u0
    have gI : Ks u v W0 kb g1 g2 rb ub vb w4 := by
      refine ⟨hx2, by rw [← HN.out]; exact hkb, up kn' q true, up a' q t, by rw [← HN.out]; exact hB1, by rw [← HN.out]; exact hB2, fun p hp hk => ?_⟩
      by_cases e : p = q
      · subst e; rw [up_self]; exact HT.out
      · rw [up_ne _ _ e] at hk ⊢
        exact HV'.out p (by rw [HN.out]; exact hp) hk
    have HG := Lib.hid (And.intro hk2 gI)
    clear hB1 hB2 hkb hk2 hx2 gI
    go_wp2
    go_ret
    exact ⟨rfl, HG.out⟩
  · rw [hkn] at v1
    have u0 := Bk.cell HB2.out hq
    have uz := Bk.lt HB2.out
    rw [HV.out q hq hkn, ← HT.out] at u0
    go_wp2
    go_ret
    exact ⟨rfl, Kq.refl _ _ _, HI.out⟩
end Go.Proofs.YtlachbodibajlaaDoor
namespace Go.Proofs.YtlachbodibajlaaDoor
open Go.RowKit Go.Shelf

set_option maxHeartbeats 4000000 in
set_option maxRecDepth 100000 in
theorem awake_any (W : World) : Calls Tryd.prog 17 #[] W fun e W' => e = .returned (.bool true) ∧ Ext W W' := by
  go_enter Tryd.func17, Tryd.ntmps17
  have e1 : Ext W (W.alloc (.cells #[.string ⟨#[97, 98, 99]⟩, .string ⟨#[97, 99, 98]⟩] 9)) := al1 W _
  have hb := heap_alloc_new W (.cells #[.string ⟨#[97, 98, 99]⟩, .string ⟨#[97, 99, 98]⟩] 9)
  have hS : Sl (W.alloc (.cells #[.string ⟨#[97, 98, 99]⟩, .string ⟨#[97, 99, 98]⟩] 9)) (.slice (some ⟨W.heap.size, 0, none⟩) 2 2) [[97, 98, 99], [97, 99, 98]] := by
    refine ⟨_, 2, rfl, by decide, by decide, fun _ => ⟨W.heap.size, 0, rfl, (Array.getElem?_eq_some_iff.1 hb).1, fun j hj => ?_⟩⟩
    have hj2 : j < 2 := hj
    rcases (show j = 0 ∨ j = 1 by omega) with rfl | rfl
    · exact (cell_of_row _ _ _ _ 9 (0, 0) hb).trans rfl
    · exact (cell_of_row _ _ _ _ 9 (0, 0) hb).trans rfl
  have hsm : Sm [[97, 98, 99], [97, 99, 98]] := by
    intro s hs
    simp at hs
    rcases hs with rfl | rfl <;> decide
  have hcon := shortest_any _ _ _ hS hsm
  rw [rest_awake.1, rest_awake.2] at hcon
  have HC := Lib.hid hcon; have HE := Lib.hid e1
  clear hb hS hsm hcon e1
  go_wp2_with fail
  refine HC.out.mono ?_
  rintro e w2 ⟨rfl, hx⟩
  have HX := Lib.hid (HE.out.trans hx)
  clear hx HC
  go_wp2
  go_ret
  exact ⟨rfl, HX.out⟩

set_option maxHeartbeats 4000000 in
set_option maxRecDepth 100000 in
theorem bathShortest_walk (s : List UInt8) (ws : List Bw.Word) (V : Value) (W : World) (hV : Sl W V ws) (hs : Sm ws) (hl : s.length ≤ 9223372036854775807) :
    Calls Tryd.prog 3 #[.string ⟨s.toArray⟩, V] W fun e W' => e = .returned (.bool true) ∧ Ext W W' := by
  have c1 := fun X h => covers_any s ws V X h hs hl
  have c2 := fun X h => coversR_any s ws V X h hs hl
  have c3 := fun X h => shortest_any ws V X h hs
  have c4 := fun X h => shortestR_any ws V X h hs
  have c5 := fun X h => count_any ws V X h hs
  have c6 := fun X h => countR_any ws V X h hs
  generalize cvB s ws = cb at c1 c2
  generalize cvE s ws = ce at c1 c2
  generalize shS ws = t at c3 c4
  generalize shE ws = se at c3 c4 c5 c6
  generalize shN ws = sn at c5 c6
  have HV := Lib.hid hV; have C1 := Lib.hid c1; have C2 := Lib.hid c2; have C3 := Lib.hid c3; have C4 := Lib.hid c4; have C5 := Lib.hid c5; have C6 := Lib.hid c6
  clear c1 c2 c3 c4 c5 c6 hs hl
  obtain ⟨A, c, rfl, hac, hcm, -⟩ := hV
  go_enter Tryd.func3, Tryd.ntmps3
  go_wp2_with fail
  refine (C1.out _ HV.out).mono ?_
  rintro e w1 ⟨rfl, hx⟩
  have HX := Lib.hid hx; clear hx
  go_wp2_with fail
  refine (C2.out _ (HV.out.ext HX.out)).mono ?_
  rintro e w2 ⟨rfl, hx⟩
  replace HX := Lib.hid (HX.out.trans hx); clear hx
  have h0 : (cb != cb) = false := by simp
  have h1 : (ce != ce) = false := by simp
  go_wp2_with fail
  refine (awake_any _).mono ?_
  rintro e w3 ⟨rfl, hx⟩
  replace HX := Lib.hid (HX.out.trans hx); clear hx
  go_wp2_with fail
  refine (C3.out _ (HV.out.ext HX.out)).mono ?_
  rintro e w4 ⟨rfl, hx⟩
  replace HX := Lib.hid (HX.out.trans hx); clear hx
  go_wp2_with fail
  refine (C4.out _ (HV.out.ext HX.out)).mono ?_
  rintro e w5 ⟨rfl, hx⟩
  replace HX := Lib.hid (HX.out.trans hx); clear hx
  go_wp2_with fail
  refine (C5.out _ (HV.out.ext HX.out)).mono ?_
  rintro e w6 ⟨rfl, hx⟩
  replace HX := Lib.hid (HX.out.trans hx); clear hx
  go_wp2_with fail
  refine (C6.out _ (HV.out.ext HX.out)).mono ?_
  rintro e w7 ⟨rfl, hx⟩
  replace HX := Lib.hid (HX.out.trans hx); clear hx
  go_wp2
  go_ret
  exact ⟨rfl, HX.out⟩
end Go.Proofs.YtlachbodibajlaaDoor
