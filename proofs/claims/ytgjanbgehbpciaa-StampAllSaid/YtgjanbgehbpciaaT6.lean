/- Walks: List, the walk. -/
import Derived.Test.YtgjanbgehbpciaaT5
namespace Go.Proofs.Ytgjanbgehbpciaa
open Go.RowKit

theorem own_slice {W : World} {base : Nat} {e : TypeId} {size : Nat} {v : Value} {n : Nat} {xs : List Value} (h : W.ownsRow base e size v n xs) : ∃ A c, v = .slice A n c := by
  obtain ⟨h1, ⟨rfl, rfl⟩ | ⟨g, cap, cur, rfl, rest⟩⟩ := h
  · exact ⟨none, 0, rfl⟩
  · exact ⟨_, cap, rfl⟩

set_option maxHeartbeats 8000000 in
set_option maxRecDepth 100000 in
theorem list_t (w h c : Nat) (A : Option Addr) (ng cg : Nat) (g : List Mv) (W : World) (hs : okSize w h = true) (hc : 1 ≤ c ∧ c ≤ 8) (hml : Ml W (.slice A ng cg) g) (hng : ng ≤ 1000) (hG : IsG w h g) (N : Nat) (hN : N = w * h) (hfew : c ^ N ≤ 4096) :
    Calls Try.prog 46 #[.int .i64 w, .int .i64 h, .int .i64 c, .slice A ng cg] W fun e W' => ∃ (Bz : Nat) (Av : Option Addr) (nd cv : Nat) (ds : List Sl), e = .returned (.tuple #[.slice Av nd cv, .int .i64 0]) ∧ nd = ds.length ∧ ds.map Sl.l = (allC c N).filter (isF w h N g) ∧
      W'.ownsRow Bz 27 3 (.slice Av nd cv) nd (ds.flatMap (encL w h N)) ∧ (∀ x ∈ ds, Il W' (.slice (some ⟨x.b, 0, none⟩) N x.c) x.l) ∧ Ext W W' := by
  obtain ⟨i0, hi, hz0, hz1, hz2⟩ := info_parts info22
  obtain ⟨j0, hj, hy0, hy1, hy2⟩ := info_parts info27
  have hs' := okSize_iff.1 hs
  have hNb : N ≤ 64 := by rw [hN]; exact Nat.mul_le_mul (show w ≤ 8 by omega) (show h ≤ 8 by omega)
  have hN1 : 1 ≤ N := by rw [hN]; exact Nat.mul_le_mul (show 1 ≤ w by omega) (show 1 ≤ h by omega)
  have hcb : colB (c : Int) = true := by unfold colB; simp; omega
  have hic := fun X => isColours_any c X
  rw [hcb] at hic
  have hhg := fun X (hX : Ext W X) => hasGroup_c w h A ng cg g X hs (hml.ext hX) hng
  rw [grpB_t hG] at hhg
  have hil := fun X => isLong_any c N X hc hNb
  rw [decide_eq_false (show ¬ 4096 < c ^ N by omega)] at hil
  have hgo := fun m X (hm : m ∈ g) => goals_3 w h m X hs (hG.has m hm)
  simp only [← hN] at hgo
  have hlen := hml.len
  have hgr := fun v k wr W2 (hk : k = ng) (hg : GW W2 w h N g k v wr) => GW.gr hs (hk.trans hlen) (by
    rw [hk, hlen]; exact List.length_pos_of_mem ((isG_iff hs).1 hG).2.2.2) hg
  have hif := fun bc gr gcap B cs X (hcs : Ar3 X bc cs) (hl : cs.length = N) (hB : B ≤ X.heap.size) (hgr : GR X B gr w h N g) => isFirst_c bc N gr gcap ng w h N B cs g X hs hN hlen hng hcs hl hB hgr
  have hall : ∀ cs : List Int, cs.length = N → (g.all fun m => !ltL (atG cs (gsN w h m N)) cs) = isF w h N g cs := fun cs hl => by
    unfold isF
    rw [Bool.eq_iff_iff, List.all_eq_true, List.all_eq_true]
    constructor <;> intro hh m hm <;> have := hh m hm
    · rwa [atG_apl hs hN (hG.has m hm) hl] at this
    · rwa [atG_apl hs hN (hG.has m hm) hl]
  have hnx := fun bc cs X (hcs : Ar3 X bc cs) (hm : cs ∈ allC c N) => next_c N bc N c cs X (by omega) hc (allC_mem.1 hm).1 (allC_mem.1 hm).2 hcs
  have hcl := fun bc cs X (hcs : Ar3 X bc cs) (hl : cs.length = N) => clone_own bc 0 N N cs X hl.symm (by omega) hN1 hcs.lt (fun j hj => by rw [Nat.zero_add]; exact hcs.cell (by omega))
  have s1 : (w : Int) * h = ((N : Nat) : Int) := by rw [hN]; simp
  have s2 : IntKind.i64.wrap ((w : Int) * h) = ((N : Nat) : Int) := by rw [s1]; exact IntWalk.i64_in _ (by omega)
  have hmk := make_i64 N (by omega)
  have hzero : (allC c N)[0]? = some (List.replicate N 0) := by
    have hp : 0 < c ^ N := Nat.pow_pos (by omega)
    obtain ⟨l, hl⟩ : ∃ l, (allC c N)[0]? = some l := ⟨_, List.getElem?_eq_getElem (by rw [allC_len]; exact hp)⟩
    exact (nxt_at c hc.1 N 0 l hl).2.2
  have hpos : 0 < c ^ N := Nat.pow_pos (by omega)
  obtain ⟨M, hM⟩ : ∃ M, M = c ^ N := ⟨_, rfl⟩
  have HIC := Lib.hid hic; have HHG := Lib.hid hhg; have HIL := Lib.hid hil; have HGO := Lib.hid hgo; have HGR := Lib.hid hgr; have HIF := Lib.hid hif; have HALL := Lib.hid hall; have HNX := Lib.hid hnx; have HCL := Lib.hid hcl
  have HZ := Lib.hid hzero; have HML := Lib.hid hml; have HLEN := Lib.hid hlen; have HM := Lib.hid hM
  obtain ⟨hc1, hc8⟩ := hc
  clear hic hhg hil hgo hgr hif hall hnx hcl hzero hml hlen hs hs' hG hN hcb
  rw [← hM] at hfew hpos
  clear hM
  obtain ⟨ob, hob⟩ : ∃ ob : Obj, ob = .cells ((List.replicate N (0 : Int)).map iv).toArray 3 := ⟨_, rfl⟩
  rw [← hob] at hmk
  have HOB := Lib.hid hob; clear hob
  go_enter Try.func46, Try.ntmps46
  go_wp2_with fail
  refine (HIC.out _).mono ?_
  rintro e w' ⟨rfl, rfl⟩
  have q1 : C2 (W.alloc (.cells #[.int .i64 w, .int .i64 h] 84)) W.heap.size (.int .i64 w) (.int .i64 h) := by
    refine ⟨?_, ?_⟩ <;> (rw [World.cell?_alloc_new]; rfl)
  have hlt1 : W.heap.size < (W.alloc (.cells #[.int .i64 w, .int .i64 h] 84)).heap.size := by simp
  have bb : Ext W (W.alloc (.cells #[.int .i64 w, .int .i64 h] 84)) := (Ext.refl W).alc _
  generalize (W.alloc (.cells #[.int .i64 w, .int .i64 h] 84)) = W1 at *
  have BB := Lib.hid bb; have Q1 := Lib.hid q1; clear bb q1
  obtain ⟨z0, z1⟩ := Q1.out
  go_wp2_with fail
  refine (HHG.out _ BB.out).mono ?_
  rintro e V ⟨rfl, hx⟩
  have E1 : Hid (Ext W1 V) := Lib.hid hx; clear hx z0 z1
  go_wp2_with fail
  refine (HIL.out _).mono ?_
  rintro e w' ⟨rfl, rfl⟩
  go_wp2_with fail
  clear HIC HHG HIL
  go_loopw [11, 36] (fun v i wr => ∃ k : Nat, i = .int .i64 k ∧ k ≤ ng ∧ Hid (GW V w h N g k v wr)) (fun _ i _ => ng - (intOf i).toNat)
  case atStart => exact ⟨0, rfl, by omega, Lib.hid ⟨[], rfl, ⟨rfl, .inl ⟨rfl, rfl⟩⟩, fun j m hj => by omega, Ext.refl _⟩⟩
  case round =>
    obtain ⟨k, rfl, hk, hgw⟩ := hrel
    by_cases hlt : k < ng
    · obtain ⟨m, hm⟩ : ∃ m, g[k]? = some m := ⟨g[k]'(by rw [← HLEN.out]; exact hlt), List.getElem?_eq_getElem _⟩
      obtain ⟨vs, v1, v2, v3, v4⟩ := hgw.out
      obtain ⟨b, off, rfl, hb, hcm⟩ := HML.out.cm (by omega)
      obtain ⟨d0, d1, d2, d3⟩ := (hcm.ext hb (BB.out.trans (E1.out.trans v4))) k m hm
      obtain ⟨z0, z1⟩ := Q1.out.ext hlt1 (E1.out.trans v4)
      have hszz : W.heap.size < wr.heap.size := Nat.lt_of_lt_of_le hlt1 (E1.out.trans v4).size
      have hgoal := fun X => HGO.out m X (List.mem_of_getElem? hm)
      have HV1 := Lib.hid v1; have HV2 := Lib.hid v2; have HV3 := Lib.hid v3; have HV4 := Lib.hid v4; have HMM := Lib.hid hm; have HGG := Lib.hid hgoal
      clear v1 v2 v3 v4 hcm hgoal hm
      go_wp2_with fail
      refine (HGG.out _).mono ?_
      rintro e V2 ⟨bg, cap, rfl, hbg, ha3, hx⟩
      have e1 : Ext wr V2 := nx ((Ext.refl wr).alc _) hx
      have HA3 := Lib.hid ha3; have E2 := Lib.hid e1; clear hx ha3 e1 d0 d1 d2 d3 z0 z1
      have hown := (World.ownsRow.ext HV2.out E2.out).alloc (.cells #[.slice (some ⟨bg, 0, none⟩) N cap] 22)
      have hbase := (HV4.out.trans E2.out).size
      go_wp2_with (at_builtin; refine wpList_append_own _ rfl _ _ 113 rfl V.heap.size 22 i0 (.slice none 0 0) 1 24 Try.underlying113 hi hz0 hz1 hz2 rfl (by decide) _ _ _ rfl hown ⟨V2.heap.size, 0, none⟩ 1 1 [.slice (some ⟨bg, 0, none⟩) N cap] rfl rfl ?c1 ?c2 ?c3 ?c4 ?c5 ?_)
      case c1 =>
        intro j u hj
        match j, hj with
        | 0, hj => simp at hj; subst hj; simp [Addr.add]
        | j + 1, hj => simp at hj
      case c2 => intro u hu; simp at hu; rcases hu with rfl; rfl
      case c3 => unfold maxLen; omega
      case c4 => omega
      case c5 => simp; omega
      intro v' w9 hown' hgrow _
      have e9 : Ext V w9 := Below.grown ((HV4.out.trans E2.out).alc (.cells #[.slice (some ⟨bg, 0, none⟩) N cap] 22)) hgrow (by simp; omega) (fun k hk => by have := (hown.lt k hk).1; omega)
      have hgw9 : Hid (GW V w h N g (k + 1) v' w9) := Lib.hid (by
        refine ⟨vs ++ [.slice (some ⟨bg, 0, none⟩) N cap], by rw [List.length_append, HV1.out]; rfl, hown', fun j mj hj hmj => ?_, e9⟩
        have keep : ∀ b' l', A3 V2 b' l' → A3 w9 b' l' := fun b' l' ha => by
          have h3 : A3 (V2.alloc (.cells #[.slice (some ⟨bg, 0, none⟩) N cap] 22)) b' l' := ha.ext ((Ext.refl _).alc _)
          exact h3.grown hgrow (h3.not_row (by decide) hown)
        by_cases hjk : j = k
        · subst hjk
          rw [HMM.out] at hmj
          injection hmj with hmj
          subst hmj
          exact ⟨bg, cap, by rw [List.getElem?_append_right (by rw [HV1.out]; exact Nat.le_refl _), HV1.out, Nat.sub_self]; rfl, keep _ _ HA3.out⟩
        · obtain ⟨b', c', p1, p2⟩ := HV3.out j mj (by omega) hmj
          exact ⟨b', c', by rw [List.getElem?_append_left (by rw [HV1.out]; omega)]; exact p1, keep _ _ (p2.ext E2.out)⟩)
      clear e9 hown' hgrow hown
      go_wp2_with fail
      go_roundw
      case rel => exact ⟨k + 1, by go_num, by omega, hgw9⟩
      case measure => simp [intOf]; omega
    · obtain rfl : k = ng := by omega
      obtain ⟨gr, gcap, rfl, hGR⟩ := HGR.out _ _ _ _ rfl hgw.out
      obtain ⟨vs, v1, v2, v3, v4⟩ := hgw.out
      have E4 := Lib.hid (BB.out.trans (E1.out.trans v4))
      have HGR2 := Lib.hid hGR
      clear v1 v2 v3 v4 hGR hgw HGR HGO E1 BB
      have hb0 : Ar3 (wr.alloc ob) wr.heap.size (List.replicate N 0) := by rw [HOB.out]; exact heap_alloc_new _ _
      have he0 : Ext wr (wr.alloc ob) := (Ext.refl wr).alc _
      have hsz : wr.heap.size < (wr.alloc ob).heap.size := by simp
      have HB0 := Lib.hid hb0; have HE0 := Lib.hid he0
      clear hb0 he0
      go_wp2_with fail
      clear hmk s1 s2
      obtain ⟨bc, hbc⟩ : ∃ bc, bc = wr.heap.size := ⟨_, rfl⟩
      have hWb : W.heap.size ≤ bc := by rw [hbc]; exact E4.out.size
      rw [← hbc] at HB0 hsz HGR2 ⊢
      have E5 : Hid (Ext W (wr.alloc ob)) := Lib.hid (E4.out.trans HE0.out)
      have hkb : Hid (∀ k, k < bc → (wr.alloc ob).heap[k]? = wr.heap[k]?) := Lib.hid (fun k hk => Below.block HE0.out k (by omega))
      have HGR3 : Hid (GR (wr.alloc ob) bc gr w h N g) := Lib.hid (HGR2.out.keep hkb.out)
      clear HGR2 hkb HE0 E4 hbc hlt
      generalize wr.alloc ob = W5 at *
      go_loopg [14, 16] M (fun gk v mo wr => Hid (LR W5 bc w h N c g gk v mo wr))
      case atStart =>
        refine Lib.hid ⟨?_, 0, by rw [Nat.zero_add]; exact HM.out, fun _ => ⟨_, HZ.out, HB0.out⟩, [], by simp, ⟨rfl, .inl ⟨rfl, rfl⟩⟩, fun x hx => (by cases hx), Gx.refl _ _⟩
        rw [decide_eq_true hpos]
      case round =>
        obtain ⟨hmo, kk, hkk, hcs, hlo⟩ := hrel.out
        clear hrel HB0 HZ
        cases gk with
        | zero =>
          rw [decide_eq_false (Nat.lt_irrefl 0)] at hmo
          subst hmo
          obtain ⟨ds, h1, h2, h3, h4⟩ := hlo
          obtain ⟨Av, cv, rfl⟩ := own_slice h2
          rw [show kk = c ^ N by omega, List.take_of_length_le (by rw [allC_len]; exact Nat.le_refl _)] at h1
          have hx : Ext W wr := Gx.ext_ h4 hWb E5.out E5.out.size
          have hil := fun x hx => LO.il (k := c ^ N) (by rw [List.take_of_length_le (by rw [allC_len]; exact Nat.le_refl _)]; exact h1) h3 hx (x := x)
          have H1 := Lib.hid h1; have H2 := Lib.hid h2; have H3 := Lib.hid hil; have HX := Lib.hid hx
          clear h1 h2 h3 h4 hcs hx hil
          obtain ⟨nd, hnd⟩ : ∃ nd, nd = ds.length := ⟨_, rfl⟩
          rw [← hnd] at H2 ⊢
          have HND := Lib.hid hnd; clear hnd
          go_wp2
          go_ret2
          exact ⟨W5.heap.size, Av, nd, cv, ds, rfl, HND.out, H1.out, H2.out, H3.out, HX.out⟩
        | succ gk =>
          rw [decide_eq_true (Nat.succ_pos gk)] at hmo
          subst hmo
          obtain ⟨cs, hat, har⟩ := hcs (Nat.succ_pos gk)
          have hmem := List.mem_of_getElem? hat
          have hlcs : cs.length = N := (allC_mem.1 hmem).1
          have hgxw : Gx bc W5 wr := by obtain ⟨ds, h1, h2, h3, h4⟩ := hlo; exact h4
          have hszr : W5.heap.size ≤ wr.heap.size := hgxw.size
          have hgrr : GR wr bc gr w h N g := HGR3.out.keep (fun k hk => hgxw.block k (by omega) (fun e => by injection e; omega))
          have hfirst := HIF.out bc gr gcap bc cs wr har hlcs (by omega) hgrr
          rw [HALL.out cs hlcs] at hfirst
          have hfin : ∀ (v : Value) (X Y : World), LO W5 bc w h N c g (kk + 1) v X → Gx bc X Y → Ar3 Y bc (nxt c cs).2 → LR W5 bc w h N c g gk v (.bool (nxt c cs).1) Y := fun v X Y h1 h2 h3 => LR.next hc1 hkk hat h1 hsz h2 h3
          have HF := Lib.hid hfirst; have HFIN := Lib.hid hfin; have HLO := Lib.hid hlo; have HAR := Lib.hid har; have HAT := Lib.hid hat; have HMEM := Lib.hid hmem; have HLC := Lib.hid hlcs
          clear hfirst hfin hlo har hat hmem hlcs hcs hgrr hgxw hkk HGR3
          cases hisf : isF w h N g cs with
          | true =>
            rw [hisf] at HF
            have HIS := Lib.hid hisf; clear hisf
            go_wp2_with fail
            refine HF.out.mono ?_
            rintro e V3 ⟨rfl, hx⟩
            have EV := Lib.hid hx; have har3 := HAR.out.ext hx; have hlo3 := LO.gx HLO.out (Gx.of hx) hsz; clear hx
            have HAR3 := Lib.hid har3; have HLO3 := Lib.hid hlo3; clear har3 hlo3
            go_wp2_with fail
            refine (HCL.out bc cs V3 HAR3.out HLC.out).mono ?_
            rintro e V4 ⟨br, cr, rfl, hbr, hcr1, hcr2, har, hx⟩
            have hlo4 := LO.gx HLO3.out (Gx.of hx) hsz
            have hsz4 : bc < V4.heap.size := Nat.lt_of_lt_of_le hsz (Nat.le_trans hszr (Nat.le_trans EV.out.size (Ext.size hx)))
            have hbrb : bc < br := by have := EV.out.size; omega
            have har4 := HAR3.out.ext hx
            have HA := Lib.hid har; have HAR4 := Lib.hid har4
            obtain ⟨ds, h1, h2, h3, h4⟩ := hlo4
            have hdl := LO.len h1
            rw [← HM.out] at hdl
            have H1 := Lib.hid h1; have H3 := Lib.hid h3; have H4 := Lib.hid h4
            clear har har4 h1 h3 h4 hx hbr
            have hown := h2.alloc (.cells #[.int .i64 w, .int .i64 h, .slice (some ⟨br, 0, none⟩) N cr] 27)
            clear h2
            have hbase : W5.heap.size ≤ V4.heap.size := H4.out.size
            go_wp2_with (at_builtin; refine wpList_append_own _ rfl _ _ 63 rfl W5.heap.size 27 j0 (.agg #[.int .i64 0, .int .i64 0, .slice none 0 0]) 3 40 Try.underlying63 hj hy0 hy1 hy2 rfl (by decide) _ _ _ rfl hown ⟨V4.heap.size, 0, none⟩ 1 1 (encL w h N ⟨br, cr, cs⟩) rfl rfl ?c1 ?c2 ?c3 ?c4 ?c5 ?_)
            case c1 =>
              intro j u hj
              match j, hj with
              | 0, hj => simp [encL] at hj; subst hj; simp [Addr.add]
              | 1, hj => simp [encL] at hj; subst hj; simp [Addr.add]
              | 2, hj => simp [encL] at hj; subst hj; simp [Addr.add]
              | j + 3, hj => simp [encL] at hj
            case c2 => intro u hu; simp [encL] at hu; rcases hu with rfl | rfl | rfl <;> rfl
            case c3 => unfold maxLen; omega
            case c4 => omega
            case c5 => simp; omega
            intro v' w9 hown' hgrow _
            have hne : some bc ≠ Value.ownBlock u14 := fun e => by have := (hown.lt bc e.symm).1; omega
            have har9 : Ar3 w9 bc cs := (HAR4.out.ext ((Ext.refl _).alc _)).grown hgrow hne
            have hadd := LO.add HAT.out HIS.out H1.out hown H3.out H4.out rfl hown' hgrow HA.out hbrb ⟨hcr1, hcr2⟩
            have HADD := Lib.hid hadd; have HAR9 := Lib.hid har9
            clear hown hown' hgrow har9 hadd hne
            go_wp2_with fail
            refine (HNX.out bc cs w9 HAR9.out HMEM.out).mono ?_
            rintro e V5 ⟨rfl, ha, hgx⟩
            have hlr := HFIN.out _ w9 V5 HADD.out hgx ha
            have HLR := Lib.hid hlr; clear hlr ha hgx
            obtain ⟨nb, hnb⟩ : ∃ nb, nb = (nxt c cs).1 := ⟨_, rfl⟩
            rw [← hnb] at HLR ⊢
            clear hnb
            go_wp2_with fail
            go_roundg gk
            case rel => exact HLR
            case measure => omega
          | false =>
            rw [hisf] at HF
            have hskip := HLO.out.skip HAT.out hisf
            have HSK := Lib.hid hskip; clear hisf hskip
            go_wp2_with fail
            refine HF.out.mono ?_
            rintro e V3 ⟨rfl, hx⟩
            have har3 := HAR.out.ext hx; have hlo3 := LO.gx HSK.out (Gx.of hx) hsz; clear hx
            have HAR3 := Lib.hid har3; have HLO3 := Lib.hid hlo3; clear har3 hlo3
            go_wp2_with fail
            refine (HNX.out bc cs V3 HAR3.out HMEM.out).mono ?_
            rintro e V4 ⟨rfl, ha, hgx⟩
            have hlr := HFIN.out _ V3 V4 HLO3.out hgx ha
            have HLR := Lib.hid hlr; clear hlr ha hgx
            obtain ⟨nb, hnb⟩ : ∃ nb, nb = (nxt c cs).1 := ⟨_, rfl⟩
            rw [← hnb] at HLR ⊢
            clear hnb
            go_wp2_with fail
            go_roundg gk
            case rel => exact HLR
            case measure => omega
end Go.Proofs.Ytgjanbgehbpciaa
