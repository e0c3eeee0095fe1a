/- Walks: the reference's Bonds, out of what cuts returns. · Bonds: what the reference asks is what isBond answers. · Walks: the reference's Part. · Cuts by names and by ranks. · Cuts as the reference lists them. · The reference's cuts as numbers. -/
import Derived.Test.YtijhbmdbnnmogaaGreatM9
import Derived.Test.YtijhbmdbnnmogaaGreatM8
namespace Go.Proofs.YtijhbmdbnnmogaaGreat.G
open Go.RowKit

theorem and_mod2 (a b : Nat) : (a &&& b) % 2 = (a % 2) * (b % 2) := by
  have := @Nat.and_mod_two_pow a b 1
  rw [show 2 ^ 1 = 2 from rfl] at this
  rw [this]
  rcases Nat.mod_two_eq_zero_or_one a with h | h <;> rcases Nat.mod_two_eq_zero_or_one b with g | g <;> rw [h, g] <;> rfl
/-- the next smaller subset -/
theorem sub_next : ∀ (t s c : Nat), t &&& s = t → c &&& s = c → c < t → c ≤ (t - 1) &&& s := by
  intro t
  induction t using Nat.strongRecOn with
  | _ t ih =>
    intro s c h1 h2 h3
    have a1 : (t / 2) &&& (s / 2) = t / 2 := by rw [← Nat.and_div_two, h1]
    have a2 : (c / 2) &&& (s / 2) = c / 2 := by rw [← Nat.and_div_two, h2]
    have b1 := and_mod2 t s
    have b2 := and_mod2 c s
    rw [h1] at b1
    rw [h2] at b2
    have e1 : ((t - 1) &&& s) / 2 = ((t - 1) / 2) &&& (s / 2) := Nat.and_div_two
    have e2 := and_mod2 (t - 1) s
    rcases Nat.mod_two_eq_zero_or_one t with h | h
    · have ht : (t - 1) / 2 = t / 2 - 1 := by omega
      have hm : (t - 1) % 2 = 1 := by omega
      have := ih (t / 2) (by omega) (s / 2) (c / 2) a1 a2 (by omega)
      rw [ht] at e1
      rw [hm, Nat.one_mul] at e2
      have hc : c % 2 ≤ s % 2 := by
        rcases Nat.mod_two_eq_zero_or_one c with h | h <;> rcases Nat.mod_two_eq_zero_or_one s with g | g <;> rw [h, g] at b2 <;> omega
      omega
    · have ht : (t - 1) / 2 = t / 2 := by omega
      rw [ht, a1] at e1
      omega
/-- k is marked, and no smaller subset of it but the empty one -/
def Ls (ct : Nat → Bool) (k : Nat) : Prop := 0 < k ∧ ct k = true ∧ ∀ c, c &&& k = c → 0 < c → c < k → ct c = false
noncomputable def lsB (ct : Nat → Bool) (k : Nat) : Bool := @decide (Ls ct k) (Classical.propDecidable _)
theorem lsB_true {ct : Nat → Bool} {k : Nat} (h : Ls ct k) : lsB ct k = true := @decide_eq_true _ (Classical.propDecidable _) h
theorem lsB_false {ct : Nat → Bool} {k : Nat} (h : ¬ Ls ct k) : lsB ct k = false := @decide_eq_false _ (Classical.propDecidable _) h
/-- what the search below k has shown when it stands at s -/
def Sub (ct : Nat → Bool) (k s : Nat) (b : Bool) : Prop := s &&& k = s ∧ s < k ∧ ((b = true ∧ ct k = true ∧ ∀ c, c &&& k = c → s < c → c < k → ct c = false) ∨ (b = false ∧ ¬ Ls ct k))
theorem Sub.start {ct : Nat → Bool} {k : Nat} (hk : 0 < k) : Sub ct k ((k - 1) &&& k) (ct k) := by
  have h1 : (k - 1) &&& k ≤ k - 1 := Nat.and_le_left
  refine ⟨by rw [Nat.and_assoc, Nat.and_self], by omega, ?_⟩
  cases c : ct k
  · exact .inr ⟨rfl, fun h => by have := h.2.1; rw [c] at this; cases this⟩
  · refine .inl ⟨rfl, rfl, fun d h2 h3 h4 => ?_⟩
    have := sub_next k k d (Nat.and_self k) h2 h4
    omega
theorem Sub.next {ct : Nat → Bool} {k s : Nat} (h : Sub ct k s true) (hs : 0 < s) : Sub ct k ((s - 1) &&& k) (!ct s) := by
  obtain ⟨h1, h2, h3⟩ := h
  have h4 : (s - 1) &&& k ≤ s - 1 := Nat.and_le_left
  refine ⟨by rw [Nat.and_assoc, Nat.and_self], by omega, ?_⟩
  rcases h3 with ⟨-, h5, h6⟩ | ⟨h5, -⟩
  · cases c : ct s
    · refine .inl ⟨rfl, h5, fun d g1 g2 g3 => ?_⟩
      rcases Nat.lt_trichotomy d s with e | e | e
      · have := sub_next s k d h1 g1 e; omega
      · rw [e]; exact c
      · exact h6 d g1 e g3
    · exact .inr ⟨rfl, fun g => by have := g.2.2 s h1 hs h2; rw [c] at this; cases this⟩
  · cases h5
theorem Sub.done {ct : Nat → Bool} {k : Nat} (h : Sub ct k 0 true) : Ls ct k := by
  obtain ⟨-, h2, ⟨-, h5, h6⟩ | ⟨h5, -⟩⟩ := h
  · exact ⟨h2, h5, fun c g1 g2 g3 => h6 c g1 g2 g3⟩
  · cases h5
theorem Sub.no {ct : Nat → Bool} {k s : Nat} (h : Sub ct k s false) : ¬ Ls ct k := by
  obtain ⟨-, -, ⟨h5, -⟩ | ⟨-, h⟩⟩ := h
  · cases h5
  · exact h

set_option maxHeartbeats 4000000 in
set_option maxRecDepth 100000 in
theorem bondsR_any (P : Nat) (Q : (Nat → Bool) → Prop) (n : Nat) (f : Nat → Int) (NV : Value) (W : World) (hP0 : 0 < P) (hP2 : P ≤ 4096) (hN : Il W NV n f)
    (hct : ∀ X, Ext W X → Calls Tryz.prog 72 #[.agg #[NV]] X fun r X' => ∃ (g : Nat) (ct : Nat → Bool), r = .returned (.slice (some ⟨g, 0, none⟩) P P) ∧ BB X' g P ct ∧ Q ct ∧ Ext X X') :
    Calls Tryz.prog 25 #[.agg #[NV]] W fun r W' => ∃ (v : Value) (x : Nat → Int) (ct : Nat → Bool), r = .returned v ∧ Q ct ∧ Ext W W' ∧ Il W' v (ek (lsB ct) P) x ∧ Es (lsB ct) P x := by
  have HCT := Lib.hid hct
  clear hct
  obtain ⟨A, c, rfl, hac, hcm, -⟩ := hN
  go_enter Tryz.func25, Tryz.ntmps25
  go_upto_region 1 with fail
  have bb := al1 W (.cells #[.slice A n c] 24)
  obtain ⟨m0, -, mz⟩ := uno (heap_alloc_new W (.cells #[.slice A n c] 24))
  generalize W.alloc (.cells #[.slice A n c] 24) = W1 at *
  have HB : Hid (Ext W W1) := Lib.hid bb
  clear bb
  go_wp2_with fail
  refine (HCT.out _ HB.out).mono ?_
  rintro e w2 ⟨g, ct, rfl, hb, hq, hx⟩
  have HQ := Lib.hid hq
  clear hq
  obtain ⟨S, hS⟩ : ∃ S, S = lsB ct := ⟨_, rfl⟩
  have HS := Lib.hid hS
  clear hS
  have HG := Lib.hid (And.intro hb (HB.out.trans hx))
  have HW2 := Lib.hid (HB.out.trans hx)
  have hg2 := Bk.lt hb
  have HGL := Lib.hid hg2
  clear hg2
  clear hb hx m0
  go_wp2_with fail
  go_loopw [4, 5] (fun v i wr => ∃ k : Nat, i = .int .i64 k ∧ 0 < k ∧ k ≤ P ∧ Hid (∃ x, Qs wr w2.heap.size v (ek S k) x ∧ Es S k x ∧ BB wr g P ct ∧ Ext W wr ∧ Ext w2 wr)) (fun _ i _ => P - (intOf i).toNat)
  case atStart =>
    refine ⟨1, rfl, by omega, by omega, Lib.hid ⟨fun _ => 0, ?_, ?_, HG.out.1, HG.out.2, Ext.refl _⟩⟩
    · have h0 : ek S 1 = 0 := ek_no (k := 0) (by rw [HS.out]; exact lsB_false fun h => by have := h.1; omega)
      rw [h0]
      exact Qs.nil _ _ _
    · intro e he hs
      obtain rfl : e = 0 := by omega
      rw [HS.out, lsB_false fun h => by have := h.1; omega] at hs
      cases hs
  case round =>
    clear HG
    obtain ⟨k, rfl, hk0, hk, hin⟩ := hrel
    obtain ⟨x, g1, g2, g3, g4, g5⟩ := hin.out
    have HF := Lib.hid (And.intro g1 (And.intro g2 (And.intro g3 (And.intro g4 g5))))
    clear hin g1 g2 g3 g4 g5
    by_cases hlt : k < P
    · have c1 := Bk.cell HF.out.2.2.1 hlt
      obtain ⟨ck_, hck⟩ : ∃ b, b = ct k := ⟨_, rfl⟩
      rw [← hck] at c1
      obtain ⟨s0, hs0⟩ : ∃ s, s = (k - 1) &&& k := ⟨_, rfl⟩
      have ha : bits .and .i64 ((k : Int) - 1) (k : Int) = (s0 : Int) := by
        rw [hs0, show (k : Int) - 1 = ((k - 1 : Nat) : Int) by omega]
        exact and_nat _ _ (by omega) (by omega)
      have HSUB : Hid (Sub ct k s0 ck_) := Lib.hid (by rw [hs0, hck]; exact Sub.start hk0)
      clear hck hs0
      go_wp2_with fail
      go_loopw [6, 7] (fun b s wx => ∃ (bb : Bool) (s' : Nat), b = .bool bb ∧ s = .int .i64 s' ∧ s' < k ∧ Hid (Sub ct k s' bb ∧ wr = wx)) (fun _ s _ => (intOf s).toNat)
      case atStart => exact ⟨_, s0, rfl, rfl, HSUB.out.2.1, Lib.hid ⟨HSUB.out, by first | rfl | trivial⟩⟩
      case round =>
        clear HSUB c1 ha
        obtain ⟨bb, s, rfl, rfl, hsk, hsub⟩ := hrel
        have hwx := hsub.out.2
        subst hwx
        have HSUB := Lib.hid hsub.out.1
        clear hsub
        cases bb
        · have HSK : Hid (S k = false) := Lib.hid (by rw [HS.out]; exact lsB_false HSUB.out.no)
          by_cases hs : s = 0
          · subst hs
            go_wp2
            go_roundw
            case rel => exact ⟨k + 1, by go_num, by omega, by omega, Lib.hid ⟨x, by rw [ek_no HSK.out]; exact HF.out.1, HF.out.2.1.no HSK.out, HF.out.2.2.1, HF.out.2.2.2.1, HF.out.2.2.2.2⟩⟩
            case measure => simp [intOf]; omega
          · have hs2 : 0 < s := by omega
            go_wp2
            go_roundw
            case rel => exact ⟨k + 1, by go_num, by omega, by omega, Lib.hid ⟨x, by rw [ek_no HSK.out]; exact HF.out.1, HF.out.2.1.no HSK.out, HF.out.2.2.1, HF.out.2.2.2.1, HF.out.2.2.2.2⟩⟩
            case measure => simp [intOf]; omega
        · by_cases hs : s = 0
          · subst hs
            have HSK : Hid (S k = true) := Lib.hid (by rw [HS.out]; exact lsB_true HSUB.out.done)
            obtain ⟨l, hl⟩ : ∃ l, l = ek S k := ⟨_, rfl⟩
            have hl3 : l ≤ 4096 := by have := ek_le S k; omega
            have HL := Lib.hid hl
            have r1 := HF.out.1
            rw [← hl] at r1
            have HR := Lib.hid r1
            clear hl r1
            obtain ⟨i0, hi, hz0, hz1, hz2⟩ := info_parts info3
            go_upto_region 12 with fail
            go_wp2_with (at_builtin; refine wpList_append_q rfl _ _ 22 rfl i0 Tryz.underlying22 hi hz0 hz1 hz2 w2.heap.size _ l x rfl ?qs ?base ⟨wr.heap.size, 0, none⟩ 1 k rfl ?cell ?nlim ?_)
            case qs => exact HR.out.ext (Ext.alc (Ext.refl _) _)
            case base => have := HF.out.2.2.2.2.size; simp; omega
            case cell => rw [World.cell?_alloc_new]; rfl
            case nlim => omega
            intro v' w9 hq4 hgr
            have z4 := hgr.ext (HF.out.2.2.2.2.alc _) (fun b hb => (HR.out.1 b hb).1)
            have z5 := hgr.bb (BB.ext HF.out.2.2.1 (Ext.alc (Ext.refl _) (.cells #[.int .i64 (k : Nat)] 3))) (fun e => by have := (HR.out.1 g e).1; have := HGL.out; omega)
            have HH := Lib.hid (And.intro hq4 (And.intro z4 z5))
            clear hq4 hgr z4 z5
            go_wp2
            go_roundw
            case rel => exact ⟨k + 1, by go_num, by omega, by omega, Lib.hid ⟨_, by rw [ek_sx HSK.out, ← HL.out]; exact HH.out.1, by have := HF.out.2.1.up_ HSK.out; rw [← HL.out] at this; exact this, HH.out.2.2, HW2.out.trans HH.out.2.1, HH.out.2.1⟩⟩
            case measure => simp [intOf]; omega
          · have hs2 : 0 < s := by omega
            have hsP : s < P := by omega
            have c5 := Bk.cell HF.out.2.2.1 hsP
            obtain ⟨cs, hcs⟩ : ∃ b, b = ct s := ⟨_, rfl⟩
            rw [← hcs] at c5
            obtain ⟨s1, hs1⟩ : ∃ t, t = (s - 1) &&& k := ⟨_, rfl⟩
            have ha : bits .and .i64 ((s : Int) - 1) (k : Int) = (s1 : Int) := by
              rw [hs1, show (s : Int) - 1 = ((s - 1 : Nat) : Int) by omega]
              exact and_nat _ _ (by omega) (by omega)
            have hs1s : s1 < s := by have : s1 ≤ s - 1 := by rw [hs1]; exact Nat.and_le_left
                                     omega
            have HN : Hid (Sub ct k s1 (!cs)) := Lib.hid (by rw [hs1, hcs]; exact HSUB.out.next (by omega))
            clear hcs hs1
            go_wp2
            go_roundw
            case rel => exact ⟨!cs, s1, rfl, rfl, by omega, Lib.hid ⟨HN.out, by first | rfl | trivial⟩⟩
            case measure => simp [intOf]; omega
    · obtain rfl : k = P := by omega
      obtain ⟨-, A9, c9, rfl, -⟩ := HF.out.1
      go_wp2
      go_ret
      exact ⟨_, x, ct, rfl, HQ.out, HF.out.2.2.2.1, by rw [← HS.out]; exact HF.out.1.il, by rw [← HS.out]; exact HF.out.2.1⟩
end Go.Proofs.YtijhbmdbnnmogaaGreat.G
namespace Go.Proofs.YtijhbmdbnnmogaaGreat.G
open Go.RowKit

theorem bits_ex2 : ∀ (n : Nat) (f : Nat → Bool), ∃ k, k < 2 ^ n ∧ ∀ i, i < n → k.testBit i = f i
  | 0, _ => ⟨0, by simp, fun i h => by omega⟩
  | n + 1, f => by
    obtain ⟨k, hk, hb⟩ := bits_ex2 n f
    by_cases c : f n = true
    · refine ⟨2 ^ n + k, by rw [Nat.pow_succ]; omega, fun i hi => ?_⟩
      by_cases e : i = n
      · subst e; rw [Nat.testBit_two_pow_add_eq, Nat.testBit_lt_two_pow hk, c]; rfl
      · rw [Nat.testBit_two_pow_add_gt (by omega)]; exact hb i (by omega)
    · refine ⟨k, by rw [Nat.pow_succ]; omega, fun i hi => ?_⟩
      by_cases e : i = n
      · subst e; rw [Nat.testBit_lt_two_pow hk]; cases h : f i
        · rfl
        · exact absurd h c
      · exact hb i (by omega)
theorem Cut.congr {n E : Nat} {us vs : Nat → Nat} {C D : Nat → Bool} (h : Cut n E us vs C) (e : ∀ i, i < E → C i = D i) : Cut n E us vs D := by
  obtain ⟨T, h1, h2⟩ := h
  exact ⟨T, h1, fun i hi => by rw [← e i hi]; exact h2 i hi⟩
theorem bit_hi {c E i : Nat} (h : c < 2 ^ E) (hi : E ≤ i) : c.testBit i = false := Nat.testBit_lt_two_pow (Nat.lt_of_lt_of_le h (Nat.pow_le_pow_right (by omega) hi))
theorem bits_ext {c d E : Nat} (hc : c < 2 ^ E) (hd : d < 2 ^ E) (h : ∀ i, i < E → c.testBit i = d.testBit i) : c = d :=
  Nat.eq_of_testBit_eq fun i => by
    rcases Nat.lt_or_ge i E with e | e
    · exact h i e
    · rw [bit_hi hc e, bit_hi hd e]
theorem sub_iff {c k : Nat} : c &&& k = c ↔ ∀ i, c.testBit i = true → k.testBit i = true := by
  constructor
  · intro h i hi
    have := congrArg (fun x => x.testBit i) h
    simp only [Nat.testBit_and, hi, Bool.true_and] at this
    exact this
  · intro h
    refine Nat.eq_of_testBit_eq fun i => ?_
    rw [Nat.testBit_and]
    cases c1 : c.testBit i
    · rfl
    · rw [h i c1]; rfl
theorem pos_iff {c E : Nat} (hc : c < 2 ^ E) : 0 < c ↔ ∃ i, i < E ∧ c.testBit i = true := by
  constructor
  · intro h
    rcases Classical.em (∃ i, i < E ∧ c.testBit i = true) with e | e
    · exact e
    · exfalso
      have : c = 0 := bits_ext hc (Nat.pow_pos (by omega)) fun i hi => by
        rw [Nat.zero_testBit]
        cases c1 : c.testBit i
        · rfl
        · exact absurd ⟨i, hi, c1⟩ e
      omega
  · rintro ⟨i, -, h⟩
    rcases Nat.eq_zero_or_pos c with e | e
    · rw [e, Nat.zero_testBit] at h; cases h
    · exact e
theorem ls_bnd {N E : Nat} {us vs : Nat → Nat} {ct : Nat → Bool} (h : ∀ c, 0 < c → c < 2 ^ E → (ct c = true ↔ Cut N E us vs (fun e => c.testBit e))) {k : Nat} (hk : k < 2 ^ E) : Ls ct k ↔ Bnd N E us vs (fun e => k.testBit e) := by
  constructor
  · rintro ⟨h0, h1, h2⟩
    refine ⟨(pos_iff hk).1 h0, (h k h0 hk).1 h1, fun C hC ⟨e0, g1, g2⟩ hcut e he hs => ?_⟩
    obtain ⟨c, hc, hb⟩ := bits_ex2 E C
    have hck : c &&& k = c := sub_iff.2 fun i hi => by
      rcases Nat.lt_or_ge i E with g | g
      · exact hC i g (by rw [← hb i g]; exact hi)
      · rw [bit_hi hc g] at hi; cases hi
    have hc0 : 0 < c := (pos_iff hc).2 ⟨e0, g1, by rw [hb e0 g1]; exact g2⟩
    have hct : ct c = true := (h c hc0 hc).2 (hcut.congr fun i hi => (hb i hi).symm)
    have hle : c ≤ k := by rw [← hck]; exact Nat.and_le_right
    have hck2 : c = k := by
      rcases Nat.lt_or_ge c k with g | g
      · rw [h2 c hck hc0 g] at hct; cases hct
      · omega
    rw [← hb e he, hck2]
    exact hs
  · rintro ⟨h0, h1, h2⟩
    refine ⟨(pos_iff hk).2 h0, (h k ((pos_iff hk).2 h0) hk).2 h1, fun c hck hc0 hlt => ?_⟩
    cases hct : ct c
    · rfl
    · exfalso
      have hc : c < 2 ^ E := by omega
      have h3 := h2 (fun e => c.testBit e) (fun e _ hs => sub_iff.1 hck e hs) ((pos_iff hc).1 hc0) ((h c hc0 hc).1 hct)
      have : c = k := bits_ext hc hk fun i hi => by
        cases c1 : k.testBit i
        · cases c2 : c.testBit i
          · rfl
          · rw [sub_iff.1 hck i c2] at c1; cases c1
        · exact h3 i hi c1
      omega
theorem bo_bnd {N E : Nat} {us vs : Nat → Nat} {S : Nat → Bool} (h : ∀ e, e < E → us e < N ∧ vs e < N) : isBo E us vs S = true ↔ Bnd N E us vs S := by
  obtain ⟨hE, hL⟩ := rk_lb (us := us) (vs := vs) (S := fun e => !S e) (Idn.eqv N) (Lb.start N) E h
  rw [← bond_iff h]
  unfold isBo olb
  rw [Bool.and_eq_true, decide_eq_true_iff, Bool.not_eq_true']
  have hab : ab (fun e => S e && lk us vs (fun e => !S e) (fun v => v) E (us e) == lk us vs (fun e => !S e) (fun v => v) E (vs e)) E = false ↔ ∀ e, e < E → S e = true → ¬ rk us vs (fun e => !S e) (Idn N) E (us e) (vs e) := by
    constructor
    · intro hab e he hs hr
      have := (ab_iff (fun e => S e && lk us vs (fun e => !S e) (fun v => v) E (us e) == lk us vs (fun e => !S e) (fun v => v) E (vs e)) E).2 ⟨e, he, by rw [hs, Bool.true_and, beq_iff_eq]; exact (hL _ _ (h e he).1 (h e he).2).2 hr⟩
      rw [hab] at this; cases this
    · intro hall
      cases c : ab (fun e => S e && lk us vs (fun e => !S e) (fun v => v) E (us e) == lk us vs (fun e => !S e) (fun v => v) E (vs e)) E
      · rfl
      · obtain ⟨e, he, h1⟩ := (ab_iff _ _).1 c
        rw [Bool.and_eq_true, beq_iff_eq] at h1
        exact absurd ((hL _ _ (h e he).1 (h e he).2).1 h1.2) (hall e he h1.1)
  rw [hab]
  exact and_congr_right fun h1 => jk_one hE hL h h1
theorem bo_ls {N E : Nat} {us vs : Nat → Nat} {ct : Nat → Bool} (h : ∀ e, e < E → us e < N ∧ vs e < N) (hct : ∀ c, 0 < c → c < 2 ^ E → (ct c = true ↔ Cut N E us vs (fun e => c.testBit e))) {k : Nat} (hk : k < 2 ^ E) :
    isBo E us vs (zb (k : Nat)) = lsB ct k := by
  have h1 : zb (k : Nat) = fun e => k.testBit e := funext fun e => zb_nat k e
  have h2 := bo_bnd (S := zb (k : Nat)) h
  rw [h1] at h2
  rw [← ls_bnd hct hk] at h2
  rw [h1]
  by_cases c : Ls ct k
  · rw [lsB_true c]; exact h2.2 c
  · rw [lsB_false c]
    cases d : isBo E us vs (fun e => k.testBit e)
    · rfl
    · exact absurd (h2.1 d) c
end Go.Proofs.YtijhbmdbnnmogaaGreat.G
namespace Go.Proofs.YtijhbmdbnnmogaaGreat.G
open Go.RowKit

def pp (i : Nat) : Nat := i / 2
def pq (f : Nat → Int) (i : Nat) : Nat := if i % 2 = 0 then tn f (i / 2) else rev (i / 2)
theorem pls_two (f : Nat → Int) (k : Nat) : pls pp (pq f) (2 * (k + 1)) = pls pp (pq f) (2 * k) ++ [.int .i64 ((k : Nat) : Int), .int .i64 ((tn f k : Nat) : Int), .int .i64 ((k : Nat) : Int), .int .i64 ((rev k : Nat) : Int)] := by
  have e1 : pp (2 * k) = k := by unfold pp; omega
  have e2 : pp (2 * k + 1) = k := by unfold pp; omega
  have e3 : pq f (2 * k) = tn f k := by unfold pq; rw [if_pos (by omega), show 2 * k / 2 = k by omega]
  have e4 : pq f (2 * k + 1) = rev k := by unfold pq; rw [if_neg (by omega), show (2 * k + 1) / 2 = k by omega]
  rw [show 2 * (k + 1) = 2 * k + 1 + 1 by omega, pls_succ, pls_succ, List.append_assoc, e1, e2, e3, e4]
  rfl
theorem pq_lt {n : Nat} {f : Nat → Int} (h : Mp n f) {i : Nat} (hi : i < 2 * n) : pp i < n ∧ pq f i < n := by
  have h1 : i / 2 < n := by omega
  refine ⟨h1, ?_⟩
  unfold pq
  split
  · exact h.tn_lt h1
  · exact rev_lt h.even h1
theorem pt_inj {n : Nat} {f : Nat → Int} (h : Mp n f) {i a b : Nat} (ha : a < n) (hb : b < n) (e : pt f i a = pt f i b) : a = b := by
  unfold pt at e
  split at e
  · exact h.inj a b ha hb (by rw [← h.tn_eq ha, ← h.tn_eq hb, e])
  · rw [← rev_rev a, e, rev_rev]
theorem pq_in {n : Nat} {f : Nat → Int} {i : Nat} (hi : i < 2 * n) : pp i < n ∧ ∃ j, j < 2 ∧ pq f i = pt f j (pp i) := by
  refine ⟨by unfold pp; omega, i % 2, by omega, ?_⟩
  unfold pq pt pp
  split <;> rfl
theorem pq_all {n : Nat} {f : Nat → Int} {j d : Nat} (hj : j < 2) (hd : d < n) : ∃ i, i < 2 * n ∧ pp i = d ∧ pq f i = pt f j d := by
  refine ⟨2 * d + j, by omega, by unfold pp; omega, ?_⟩
  unfold pq pt
  rw [show (2 * d + j) % 2 = j by omega, show (2 * d + j) / 2 = d by omega]

set_option maxHeartbeats 4000000 in
set_option maxRecDepth 100000 in
theorem partR_any (n : Nat) (f : Nat → Int) (NV : Value) (W : World) (hN : Il W NV n f) (hM : Mp n f) (m : Nat → Nat) (hm : Nm n 2 (pt f) m) :
    Calls Tryz.prog 79 #[.agg #[NV]] W fun e W' => ∃ g, e = .returned (.slice (some ⟨g, 0, none⟩) n n) ∧ BI W' g n (fun d => ((m d : Nat) : Int)) ∧ Ext W W' := by
  have HN := Lib.hid hN; have HMM := Lib.hid (And.intro hM hm)
  have hn80 : n ≤ 80 := hM.le
  obtain ⟨A, c, rfl, hac, hcm, -⟩ := hN
  clear hM hm
  obtain ⟨i0, hi, hz0, hz1, hz2⟩ := info_parts info162
  have HI := Lib.hid (And.intro hi (And.intro hz0 (And.intro hz1 hz2)))
  clear hi hz0 hz1 hz2
  go_enter Tryz.func79, Tryz.ntmps79
  go_upto_region 1 with fail
  have bb := al1 W (.cells #[.slice A n c] 24)
  obtain ⟨m0, -, mz⟩ := uno (heap_alloc_new W (.cells #[.slice A n c] 24))
  generalize W.alloc (.cells #[.slice A n c] 24) = W1 at *
  have HB : Hid (Ext W W1) := Lib.hid bb
  have HM0 := Lib.hid m0
  clear bb
  go_wp2_with fail
  clear m0
  go_loopw [3, 9] (fun q i wr => ∃ k : Nat, i = .int .i64 k ∧ k ≤ n ∧ Hid (wr.ownsRow W1.heap.size 162 2 q (2 * k) (pls pp (pq f) (2 * k)) ∧ Ext W1 wr)) (fun _ i _ => n - (intOf i).toNat)
  case atStart => exact ⟨0, rfl, Nat.zero_le _, Lib.hid ⟨World.ownsRow_nil _ _ _ _, Ext.refl _⟩⟩
  case round =>
    obtain ⟨k, rfl, hk, hin⟩ := hrel
    obtain ⟨Av, cv, rfl⟩ := shape_own hin.out.1
    obtain ⟨wo, rfl⟩ : ∃ w, w = wr := ⟨_, rfl⟩
    by_cases hlt : k < n
    · obtain ⟨b1, o1, rfl, -, e1⟩ := Vl.at HN.out (HB.out.trans hin.out.2) hlt
      obtain ⟨z, hz⟩ : ∃ z, z = tn f k := ⟨_, rfl⟩
      rw [← HMM.out.1.tn_eq hlt, ← hz] at e1
      obtain ⟨v, hv⟩ : ∃ v, v = rev k := ⟨_, rfl⟩
      have hbx : bits .xor .i64 (k : Int) 1 = (v : Int) := by rw [hv]; exact bits_rev k (by omega)
      have HZ := Lib.hid (And.intro hz hv)
      clear hz hv
      have hown0 := hin.out.1
      obtain ⟨L, hL⟩ : ∃ L, L = 2 * k := ⟨_, rfl⟩
      have HL := Lib.hid hL
      have hL200 : L ≤ 200 := by omega
      rw [← hL] at hown0 ⊢
      clear hL
      have hown := World.ownsRow.ext hown0 (Ext.alc (Ext.refl wo) (.cells #[.int .i64 (k : Nat), .int .i64 (z : Nat), .int .i64 (k : Nat), .int .i64 (v : Nat)] 162))
      go_wp2_with (at_builtin; refine wpList_append_own _ rfl _ _ 161 rfl W1.heap.size 162 i0 (.agg #[.int .i64 0, .int .i64 0]) 2 16 Tryz.underlying161 HI.out.1 HI.out.2.1 HI.out.2.2.1 HI.out.2.2.2 rfl (by decide) _ L _ rfl hown ⟨wo.heap.size, 0, none⟩ 2 2 [.int .i64 (k : Nat), .int .i64 (z : Nat), .int .i64 (k : Nat), .int .i64 (v : Nat)] rfl rfl (nw4 _ _ _ _ _ _) ?c2 ?c3 ?c4 ?c5 ?_)
      case c2 => intro uu hu; simp at hu; rcases hu with rfl | rfl | rfl | rfl <;> rfl
      case c3 => unfold maxLen; omega
      case c4 => omega
      case c5 => have := hin.out.2.size; first | omega | (simp; done) | (simp; omega)
      intro v' w3 hown' hgrow _hnil
      clear _hnil
      have hex : Ext W1 w3 := ext_grow (hin.out.2.alc _) hgrow (fun b' hb' => (World.ownsRow.lt hown b' hb').1) (Nat.le_refl _)
      have HNX : Hid (w3.ownsRow W1.heap.size 162 2 v' (2 * (k + 1)) (pls pp (pq f) (2 * (k + 1))) ∧ Ext W1 w3) := Lib.hid ⟨(by
        have e : 2 * (k + 1) = L + 2 := by have := HL.out; omega
        rw [pls_two, ← HZ.out.1, ← HZ.out.2, e, ← HL.out]; exact hown'), hex⟩
      clear hown' hex hgrow hown e1
      go_wp2
      go_roundw
      case rel => exact ⟨k + 1, by go_num, by omega, HNX⟩
      case measure => simp [intOf]; omega
    · obtain rfl : k = n := by omega
      have m0 := keepAt hin.out.2 mz HM0.out
      have HP := Lib.hid (pr_own hin.out.1)
      go_wp2_with fail
      refine (lowest_any k (2 * k) pp (pq f) _ _ HP.out (by omega) (fun i hi => pq_lt HMM.out.1 hi)).mono ?_
      rintro e w4 ⟨g, x, rfl, -, hb, hlw, heq, hx⟩
      clear m0
      have hfin : BI w4 g k (fun d => ((m d : Nat) : Int)) := Bk.congr hb fun d hd => by
        dsimp only
        rw [hlw.nm (k := 2) (st := pt f) (m := m) (fun i _ d hd => HMM.out.1.pt_lt i hd) (fun i hi a b ha hb h => pt_inj HMM.out.1 ha hb h) (fun i hi => pq_in hi) (fun j hj d hd => pq_all hj hd) heq HMM.out.2 hd]
      have HF := Lib.hid (And.intro hfin (HB.out.trans (hin.out.2.trans hx)))
      clear hb hlw heq hx hfin
      go_wp2
      go_ret
      exact ⟨g, rfl, HF.out.1, HF.out.2⟩
end Go.Proofs.YtijhbmdbnnmogaaGreat.G
namespace Go.Proofs.YtijhbmdbnnmogaaGreat.G
open Go.RowKit

section
variable {n : Nat} {f : Nat → Int} {m mp : Nat → Nat}
theorem Nm.same {k0 : Nat} {st : Nat → Nat → Nat} {m : Nat → Nat} (h : Nm n k0 st m) (hst : ∀ i, i < k0 → ∀ d, d < n → st i d < n) (hin : ∀ i, i < k0 → ∀ a b, a < n → b < n → st i a = st i b → a = b) {a b : Nat} (ha : a < n) (hb : b < n) : m a = m b ↔ Rch n k0 st a b := by
  constructor
  · intro e
    have h1 := (h a ha).1
    have h2 := (h b hb).1
    rw [e] at h1
    exact (Rch.back hst hin h1).trans h2
  · intro hr
    have h1 := (h a ha).2 (m b) ((h b hb).1.trans (Rch.back hst hin hr))
    have h2 := (h b hb).2 (m a) ((h a ha).1.trans hr)
    omega
theorem pt_inj2 (hM : Mp n f) : ∀ i, i < 2 → ∀ a b, a < n → b < n → pt f i a = pt f i b → a = b := by
  intro i _ a b ha hb h
  unfold pt at h
  split at h
  · exact hM.inj a b ha hb (by rw [← hM.tn_eq ha, ← hM.tn_eq hb, h])
  · have := congrArg rev h
    rw [rev_rev, rev_rev] at this
    exact this
/-- two darts lie in one part just where their vertices are joined by edges -/
theorem part_iff (hM : Mp n f) (hm : Nm n 1 (fun _ => tn f) m) (hp : Nm n 2 (pt f) mp) {a b : Nat} (ha : a < n) (hb : b < n) :
    mp a = mp b ↔ rk (ru m) (rv m) (fun _ => true) (Idn (rank m n)) (n / 2) (rank m (m a)) (rank m (m b)) := by
  have hev := hM.even
  have hend : ∀ e, e < n / 2 → ru m e < rank m n ∧ rv m e < rank m n := fun e he => ⟨rank_in hm (by omega), rank_in hm (by omega)⟩
  have hE := (rk_lb (us := ru m) (vs := rv m) (S := fun _ => true) (Idn.eqv (rank m n)) (Lb.start (rank m n)) (n / 2) hend).1
  have hst2 : ∀ i, i < 2 → ∀ d, d < n → pt f i d < n := fun i _ d hd => hM.pt_lt i hd
  have hst1 : ∀ i, i < 1 → ∀ d, d < n → tn f d < n := fun _ _ d hd => hM.tn_lt hd
  have hin1 : ∀ i, i < 1 → ∀ a b, a < n → b < n → tn f a = tn f b → a = b := fun _ _ a b ha hb h => hM.inj a b ha hb (by rw [← hM.tn_eq ha, ← hM.tn_eq hb, h])
  have hsp := hp.same hst2 (pt_inj2 hM) ha hb
  constructor
  · intro e
    have hr := hsp.1 e
    clear hsp e hb
    induction hr with
    | here _ => exact hE.rf _ (rank_in hm ha)
    | @step c i hr hi ih =>
      have hc := hr.lt hst2
      refine hE.tr _ _ _ ih ?_
      by_cases c0 : i = 0
      · subst c0
        have h1 : m c = m (pt f 0 c) := (hm.same hst1 hin1 hc (hst2 0 hi c hc)).2 ((Rch.here hc).step (i := 0) (by omega))
        rw [← h1]
        exact hE.rf _ (rank_in hm hc)
      · have h1 : pt f i c = rev c := by unfold pt; rw [if_neg c0]
        rw [h1]
        have h5 := rk_has (us := ru m) (vs := rv m) (S := fun _ => true) (Idn.eqv (rank m n)) hend (n / 2) (Nat.le_refl _) (c / 2) (by omega) rfl
        rcases (show c = 2 * (c / 2) ∨ c = 2 * (c / 2) + 1 by omega) with g | g
        · have h6 : rev c = 2 * (c / 2) + 1 := by unfold rev; split <;> omega
          have h7 : rank m (m c) = ru m (c / 2) := by unfold ru; rw [← g]
          rw [h6, h7]
          exact h5
        · have h6 : rev c = 2 * (c / 2) := by unfold rev; split <;> omega
          have h7 : rank m (m c) = rv m (c / 2) := by unfold rv; rw [← g]
          rw [h6, h7]
          exact hE.sy _ _ h5
  · intro hr
    -- a part's vertices
    have hsame : ∀ d, d < n → mp (m d) = mp d := fun d hd => by
      have h1 := (hm d hd).1
      have hlt : m d < n := by have := hm.le_self hd; omega
      refine (hp.same hst2 (pt_inj2 hM) hlt hd).2 ?_
      have key : ∀ a b, Rch n 1 (fun _ => tn f) a b → Rch n 2 (pt f) a b := fun a b h => by
        induction h with
        | here h => exact .here h
        | step _ hi ih => exact ih.step (i := 0) (by omega)
      exact key _ _ h1
    have hc := rk_const (us := ru m) (vs := rv m) (S := fun _ => true) (E := n / 2) (rank m n) (T := fun w => @decide (∃ d, d < n ∧ m d = d ∧ rank m d = w ∧ mp d = mp b) (Classical.propDecidable _)) (fun e hee _ => by
      have h6 : m (2 * e) < n := by have := hm.le_self (show 2 * e < n by omega); omega
      have h7 : m (2 * e + 1) < n := by have := hm.le_self (show 2 * e + 1 < n by omega); omega
      have h8 := hm.idem (show 2 * e < n by omega)
      have h9 := hm.idem (show 2 * e + 1 < n by omega)
      have h2 : mp (m (2 * e)) = mp (m (2 * e + 1)) := by
        rw [hsame _ (by omega), hsame _ (by omega)]
        refine (hp.same hst2 (pt_inj2 hM) (by omega) (by omega)).2 ?_
        have := (Rch.here (n := n) (k := 2) (st := pt f) (show 2 * e < n by omega)).step (i := 1) (by omega)
        have h1 : pt f 1 (2 * e) = 2 * e + 1 := by unfold pt; rw [if_neg (by omega)]; unfold rev; split <;> omega
        rw [h1] at this
        exact this
      refine decide_eq_decide.2 ⟨fun ⟨d, g1, g2, g3, g4⟩ => ?_, fun ⟨d, g1, g2, g3, g4⟩ => ?_⟩
      · have : d = m (2 * e) := rank_inj g2 h8 g3
        subst this
        exact ⟨_, h7, h9, rfl, by rw [← h2]; exact g4⟩
      · have : d = m (2 * e + 1) := rank_inj g2 h9 g3
        subst this
        exact ⟨_, h6, h8, rfl, by rw [h2]; exact g4⟩) (n / 2) (Nat.le_refl _) _ _ hr
    have h1 := decide_eq_decide.1 hc
    have hlb : m b < n := by have := hm.le_self hb; omega
    obtain ⟨d, g1, g2, g3, g4⟩ := h1.2 ⟨m b, hlb, hm.idem hb, rfl, hsame b hb⟩
    have : d = m a := rank_inj g2 (hm.idem ha) g3
    subst this
    rw [← hsame a ha, g4]
end
end Go.Proofs.YtijhbmdbnnmogaaGreat.G
namespace Go.Proofs.YtijhbmdbnnmogaaGreat.G
open Go.RowKit

/-- a set of vertices of the part p, by names, that cuts the edges in C -/
def Side (n E : Nat) (m mp : Nat → Nat) (p : Nat) (T : Nat → Bool) (C : Nat → Bool) : Prop :=
  (∀ d, d < n → m d = d → T d = true → mp d = p) ∧ ∀ e, e < E → C e = (T (m (2 * e)) != T (m (2 * e + 1)))
theorem cut_iff {n : Nat} {f : Nat → Int} {m mp : Nat → Nat} (hM : Mp n f) (hm : Nm n 1 (fun _ => tn f) m) (hp : Nm n 2 (pt f) mp) {C : Nat → Bool} (hC : ∃ e, e < n / 2 ∧ C e = true) :
    Cut (rank m n) (n / 2) (ru m) (rv m) C ↔ ∃ p T, p < n ∧ mp p = p ∧ Side n (n / 2) m mp p T C := by
  have hev := hM.even
  have hend : ∀ e, e < n / 2 → ru m e < rank m n ∧ rv m e < rank m n := fun e he => ⟨rank_in hm (by omega), rank_in hm (by omega)⟩
  have hE := (rk_lb (us := ru m) (vs := rv m) (S := fun _ => true) (Idn.eqv (rank m n)) (Lb.start (rank m n)) (n / 2) hend).1
  constructor
  · rintro ⟨T, ⟨p0, h1⟩, h2⟩
    obtain ⟨e0, he0, hc0⟩ := hC
    -- a vertex inside
    obtain ⟨d0, hd0, hT0⟩ : ∃ d, d < n ∧ T (rank m (m d)) = true := by
      have h3 := h2 e0 he0
      rw [hc0] at h3
      cases c1 : T (ru m e0)
      · cases c2 : T (rv m e0)
        · rw [c1, c2] at h3; cases h3
        · exact ⟨2 * e0 + 1, by omega, c2⟩
      · exact ⟨2 * e0, by omega, c1⟩
    refine ⟨mp d0, fun d => T (rank m d), by have := hp.le_self hd0; omega, hp.idem hd0, fun d hd hmd hT => ?_, h2⟩
    refine (part_iff hM hm hp hd hd0).2 ?_
    rw [hmd]
    exact hE.tr _ _ _ (hE.sy _ _ (h1 _ (by have := rank_in hm hd; rw [hmd] at this; exact this) hT)) (h1 _ (rank_in hm hd0) hT0)
  · rintro ⟨p, T, hpn, hpp, h1, h2⟩
    have hT : ∀ d, d < n → @decide (∃ a, a < n ∧ m a = a ∧ rank m a = rank m (m d) ∧ T a = true) (Classical.propDecidable _) = T (m d) := fun d hd => by
      have hlt : m d < n := by have := hm.le_self hd; omega
      cases c : T (m d)
      · refine @decide_eq_false _ (Classical.propDecidable _) ?_
        rintro ⟨a, g1, g2, g3, g4⟩
        have : a = m d := rank_inj g2 (hm.idem hd) g3
        subst this
        rw [c] at g4; cases g4
      · exact @decide_eq_true _ (Classical.propDecidable _) ⟨m d, hlt, hm.idem hd, rfl, c⟩
    refine ⟨fun w => @decide (∃ a, a < n ∧ m a = a ∧ rank m a = w ∧ T a = true) (Classical.propDecidable _), ⟨rank m (m p), fun w hw hwT => ?_⟩, fun e he => ?_⟩
    · obtain ⟨a, g1, g2, rfl, g4⟩ := @of_decide_eq_true _ (Classical.propDecidable _) hwT
      have h3 := (part_iff hM hm hp hpn g1).1 (by rw [hpp, h1 a g1 g2 g4])
      rw [g2] at h3
      exact h3
    · rw [h2 e he, ← hT (2 * e) (by omega), ← hT (2 * e + 1) (by omega)]
      rfl
end Go.Proofs.YtijhbmdbnnmogaaGreat.G
namespace Go.Proofs.YtijhbmdbnnmogaaGreat.G
open Go.RowKit

theorem ek_sur (S : Nat → Bool) {i : Nat} : ∀ k, i < ek S k → ∃ e, e < k ∧ S e = true ∧ ek S e = i
  | 0, h => absurd h (Nat.not_lt_zero _)
  | k + 1, h => by
    by_cases c : i < ek S k
    · obtain ⟨e, h1, h2⟩ := ek_sur S k c
      exact ⟨e, by omega, h2⟩
    · cases hs : S k
      · rw [ek_no hs] at h; omega
      · rw [ek_sx hs] at h
        exact ⟨k, by omega, hs, by omega⟩
/-- the names of the part p -/
def On (m mp : Nat → Nat) (p d : Nat) : Bool := decide (m d = d) && decide (mp d = p)
/-- the vertices that the set z of a part's vertices holds -/
def Tz (O : Nat → Bool) (z : Nat) (x : Nat) : Bool := O x && zb (z : Nat) (ek O x)
theorem in_tz {O : Nat → Bool} {n : Nat} {y : Nat → Int} (hy : Es O n y) {z x : Nat} (hx : x < n) {b : Bool} (h : InB (ek O n) y (z : Nat) (x : Nat) b) : b = Tz O z x := by
  rcases h with ⟨i, h1, h2, -, rfl⟩ | ⟨h1, rfl⟩
  · obtain ⟨e, g1, g2, rfl⟩ := ek_sur O n h1
    rw [hy e g1 g2] at h2
    have : e = x := by omega
    subst this
    unfold Tz
    rw [g2, Bool.true_and]
  · unfold Tz
    cases c : O x
    · rfl
    · exfalso
      have h2 := ek_mono O n (show x + 1 ≤ n by omega)
      rw [ek_sx c] at h2
      exact h1 (ek O x) (by omega) (hy x hx c)
/-- the edges that T cuts, as a number -/
def edn (T : Nat → Bool) (m : Nat → Nat) : Nat → Nat
  | 0 => 0
  | d + 1 => if T (m d) && !T (m (rev d)) then edn T m d ||| 2 ^ (d / 2) else edn T m d
theorem edn_bit (T : Nat → Bool) (m : Nat → Nat) (e : Nat) : ∀ k, (edn T m k).testBit e = true ↔ ∃ d, d < k ∧ d / 2 = e ∧ (T (m d) && !T (m (rev d))) = true
  | 0 => by
    unfold edn
    rw [Nat.zero_testBit]
    exact ⟨fun h => (by cases h), fun ⟨d, h, _⟩ => by omega⟩
  | k + 1 => by
    have ih := edn_bit T m e k
    unfold edn
    by_cases c : (T (m k) && !T (m (rev k))) = true
    · rw [if_pos c, Nat.testBit_or, Bool.or_eq_true, ih, Nat.testBit_two_pow]
      constructor
      · rintro (⟨d, h1, h2⟩ | h)
        · exact ⟨d, by omega, h2⟩
        · exact ⟨k, by omega, by simpa using h, c⟩
      · rintro ⟨d, h1, h2, h3⟩
        by_cases g : d = k
        · subst g; right; simpa using h2
        · exact .inl ⟨d, by omega, h2, h3⟩
    · rw [if_neg c, ih]
      constructor
      · rintro ⟨d, h1, h2⟩
        exact ⟨d, by omega, h2⟩
      · rintro ⟨d, h1, h2, h3⟩
        by_cases g : d = k
        · subst g; exact absurd h3 c
        · exact ⟨d, by omega, h2, h3⟩
theorem edn_lt (T : Nat → Bool) (m : Nat → Nat) (E : Nat) : ∀ k, k ≤ 2 * E → edn T m k < 2 ^ E
  | 0, _ => Nat.pow_pos (by omega)
  | k + 1, h => by
    have ih := edn_lt T m E k (by omega)
    unfold edn
    split
    · exact Nat.or_lt_two_pow ih (Nat.pow_lt_pow_right (by omega) (by omega))
    · exact ih
theorem edn_xor (T : Nat → Bool) (m : Nat → Nat) {E e : Nat} (he : e < E) : (edn T m (2 * E)).testBit e = (T (m (2 * e)) != T (m (2 * e + 1))) := by
  have r1 : rev (2 * e) = 2 * e + 1 := by unfold rev; split <;> omega
  have r2 : rev (2 * e + 1) = 2 * e := by unfold rev; split <;> omega
  rw [Bool.eq_iff_iff, edn_bit]
  constructor
  · rintro ⟨d, h1, h2, h3⟩
    rcases (show d = 2 * e ∨ d = 2 * e + 1 by omega) with c | c
    · subst c; rw [r1] at h3; cases h4 : T (m (2 * e)) <;> cases h5 : T (m (2 * e + 1)) <;> simp_all
    · subst c; rw [r2] at h3; cases h4 : T (m (2 * e)) <;> cases h5 : T (m (2 * e + 1)) <;> simp_all
  · intro h
    cases h4 : T (m (2 * e))
    · exact ⟨2 * e + 1, by omega, by omega, by rw [r2]; cases h5 : T (m (2 * e + 1)) <;> simp_all⟩
    · exact ⟨2 * e, by omega, by omega, by rw [r1]; cases h5 : T (m (2 * e + 1)) <;> simp_all⟩
/-- the numbers that the parts below k have marked -/
def Mk (n : Nat) (m mp : Nat → Nat) (k c : Nat) : Prop := ∃ p z, p < k ∧ mp p = p ∧ z < 2 ^ ek (On m mp p) n ∧ c = edn (Tz (On m mp p) z) m n
theorem mk_side {n E c : Nat} {m mp : Nat → Nat} (hn : n = 2 * E) (hm : ∀ d, d < n → m d < n ∧ m (m d) = m d) (hc : c < 2 ^ E) : Mk n m mp n c ↔ ∃ p T, p < n ∧ mp p = p ∧ Side n E m mp p T (fun e => c.testBit e) := by
  constructor
  · rintro ⟨p, z, h1, h2, -, h3⟩
    refine ⟨p, Tz (On m mp p) z, h1, h2, fun d _ _ hT => ?_, fun e he => ?_⟩
    · unfold Tz On at hT
      simp only [Bool.and_eq_true, decide_eq_true_iff] at hT
      exact hT.1.2
    · rw [h3, hn]
      exact edn_xor _ m he
  · rintro ⟨p, T, h1, h2, h3, h4⟩
    obtain ⟨z, hz, hb⟩ := bits_ex2 (ek (On m mp p) n) (fun i => @decide (∃ e, e < n ∧ On m mp p e = true ∧ ek (On m mp p) e = i ∧ T e = true) (Classical.propDecidable _))
    have key : ∀ d, d < n → Tz (On m mp p) z (m d) = T (m d) := fun d hd => by
      obtain ⟨g1, g2⟩ := hm d hd
      unfold Tz
      cases c1 : On m mp p (m d)
      · cases c2 : T (m d)
        · rfl
        · have h5 := h3 (m d) g1 g2 c2
          unfold On at c1
          rw [decide_eq_true g2, decide_eq_true h5] at c1
          cases c1
      · have h5 : ek (On m mp p) (m d) < ek (On m mp p) n := by
          have := ek_mono (On m mp p) n (show m d + 1 ≤ n by omega)
          rw [ek_sx c1] at this
          omega
        rw [Bool.true_and, zb_nat, hb _ h5]
        cases c2 : T (m d)
        · refine @decide_eq_false _ (Classical.propDecidable _) ?_
          rintro ⟨e, k1, k2, k3, k4⟩
          have : e = m d := by
            rcases Nat.lt_trichotomy e (m d) with q | q | q
            · have := ek_mono (On m mp p) (m d) (show e + 1 ≤ m d by omega)
              rw [ek_sx k2] at this; omega
            · exact q
            · have := ek_mono (On m mp p) e (show m d + 1 ≤ e by omega)
              rw [ek_sx c1] at this; omega
          subst this
          rw [c2] at k4; cases k4
        · exact @decide_eq_true _ (Classical.propDecidable _) ⟨m d, g1, c1, rfl, c2⟩
    refine ⟨p, z, h1, h2, hz, ?_⟩
    refine bits_ext hc (edn_lt _ m E n (by omega)) fun e he => ?_
    rw [hn, edn_xor _ m he, key (2 * e) (by omega), key (2 * e + 1) (by omega)]
    exact h4 e he
end Go.Proofs.YtijhbmdbnnmogaaGreat.G
