/- Walks: the reference's Group. -/
import Derived.Test.YtgjanbgehbpciaaD2
namespace Go.Proofs.Ytgjanbgehbpciaa
open Go.RowKit

/-- the bools mark these moves -/
def Mk (w h : Nat) (l : List Mv) (bs : List Bool) : Prop := bs.length = pos w h 2 0 0 0 ∧ ∀ m, has w h m = true → (bs.getD (nm w h m) false = true ↔ m ∈ l)
/-- the marked ones of the first i moves are the first k -/
def Pf (w h : Nat) (l : List Mv) (i k : Nat) : Prop := ((mvs w h (pos w h 2 0 0 0)).take i).filter (fun m => decide (m ∈ l)) = l.take k
section
variable {w h : Nat} {l : List Mv} {bs : List Bool} {i k : Nat} {m : Mv}
theorem Mk.start : Mk w h (l.take 0) (List.replicate (pos w h 2 0 0 0) false) := by
  refine ⟨by simp, fun m hm => ?_⟩
  rw [List.getD_eq_getElem?_getD, List.getElem?_replicate]
  split <;> simp
theorem Mk.next (hk : Mk w h (l.take k) bs) (hm : l[k]? = some m) (hh : has w h m = true) : Mk w h (l.take (k + 1)) (bs.set (nm w h m) true) := by
  have e : l.take (k + 1) = l.take k ++ [m] := by rw [List.take_add_one, hm]; rfl
  have hn : nm w h m < bs.length := by rw [hk.1]; exact nm_bd hh
  refine ⟨by rw [List.length_set]; exact hk.1, fun x hx => ?_⟩
  rw [getD_set_b hn, e, List.mem_append, List.mem_singleton]
  by_cases hxm : nm w h x = nm w h m
  · rw [if_pos hxm]; exact ⟨fun _ => .inr (nm_inj hx hh hxm), fun _ => rfl⟩
  · rw [if_neg hxm, hk.2 x hx]
    exact ⟨.inl, fun h1 => h1.resolve_right (fun e => hxm (by rw [e]))⟩
theorem Pf.start : Pf w h l 0 0 := by simp [Pf]
theorem Pf.skip (hp : Pf w h l i k) (hm : (mvs w h (pos w h 2 0 0 0))[i]? = some m) (hn : ¬ m ∈ l) : Pf w h l (i + 1) k := by
  unfold Pf at *
  rw [List.take_add_one, hm, List.filter_append, hp]
  simp [hn]
theorem Pf.hit (hp : Pf w h l i k) (hm : (mvs w h (pos w h 2 0 0 0))[i]? = some m) (hn : m ∈ l) (hk : l[k]? = some m) : Pf w h l (i + 1) (k + 1) := by
  unfold Pf at *
  rw [List.take_add_one, hm, List.filter_append, hp, List.take_add_one, hk]
  simp [hn]
theorem Pf.bad (hs : okSize w h = true) (hp : Pf w h l i k) (hm : (mvs w h (pos w h 2 0 0 0))[i]? = some m) (hn : m ∈ l) (hk : l[k]? ≠ some m) : grpB w h l = false := by
  refine grpB_f fun hg => hk ?_
  have e := ris_mvs hs hg.has hg.ris
  have hi : i < (mvs w h (pos w h 2 0 0 0)).length := (List.getElem?_eq_some_iff.1 hm).1
  rw [← List.take_append_drop i (mvs w h (pos w h 2 0 0 0)), List.filter_append, List.drop_eq_getElem_cons hi, (List.getElem?_eq_some_iff.1 hm).2] at e
  unfold Pf at hp
  rw [hp, List.filter_cons, if_pos (by simpa using hn)] at e
  have hlen := congrArg List.length e
  rw [List.length_append, List.length_cons, List.length_take] at hlen
  have hkl : k < l.length := by omega
  rw [← e, List.getElem?_append_right (by rw [List.length_take]; omega), List.length_take]
  have : k - min k l.length = 0 := by omega
  rw [this]; rfl
theorem Pf.fin (hp : Pf w h l (mvs w h (pos w h 2 0 0 0)).length k) : (mvs w h (pos w h 2 0 0 0)).filter (fun m => decide (m ∈ l)) = l.take k := by
  unfold Pf at hp
  rwa [List.take_of_length_le (Nat.le_refl _)] at hp
theorem grp_end_f (hs : okSize w h = true) (hp : (mvs w h (pos w h 2 0 0 0)).filter (fun m => decide (m ∈ l)) = l.take k) (hk : k < l.length) : grpB w h l = false :=
  grpB_f fun hg => by
    rw [ris_mvs hs hg.has hg.ris] at hp
    have := congrArg List.length hp
    rw [List.length_take] at this
    omega
theorem grp_end_t (hs : okSize w h = true) (hh : ∀ m ∈ l, has w h m = true) (hp : (mvs w h (pos w h 2 0 0 0)).filter (fun m => decide (m ∈ l)) = l.take l.length)
    (hc : ∀ a ∈ l, ∀ b ∈ l, aft w h a b ∈ l) (hm : Mk w h l bs) {b : Bool} (hb : bs.getD 0 false = b) : grpB w h l = b := by
  have h0 : nm w h Mv.one = 0 := by simp [nm, pos, Mv.one]
  have h1 := hm.2 Mv.one (one_has hs)
  rw [h0, hb] at h1
  rw [List.take_of_length_le (Nat.le_refl _)] at hp
  cases b
  · exact grpB_f fun hg => by have := h1.2 ((isG_iff hs).1 hg).2.2.2; cases this
  · exact grpB_t ((isG_iff hs).2 ⟨hh, hp, hc, h1.1 rfl⟩)
theorem grp_not_closed (hs : okSize w h = true) {a b : Mv} (ha : a ∈ l) (hb : b ∈ l) (hc : ¬ aft w h a b ∈ l) : grpB w h l = false :=
  grpB_f fun hg => hc (((isG_iff hs).1 hg).2.2.1 a ha b hb)
theorem grp_nil : grpB w h [] = false := grpB_f fun hg => by have := hg.gen _ .one; cases this
theorem grp_many (hs : okSize w h = true) (hl : pos w h 2 0 0 0 < l.length) : grpB w h l = false :=
  grpB_f fun hg => by have := ris_len hs hg.has hg.ris; omega
end

/-- the moves that come in, in any later world -/
def Cm (W : World) (b off : Nat) (l : List Mv) : Prop := ∀ j m, l[j]? = some m → W.cell? ⟨b, off + j * 4, none⟩ = some (.int .i64 m.dx) ∧ W.cell? ⟨b, off + j * 4 + 1, none⟩ = some (.int .i64 m.dy) ∧ W.cell? ⟨b, off + j * 4 + 2, none⟩ = some (.int .i64 m.t) ∧ W.cell? ⟨b, off + j * 4 + 3, none⟩ = some (.bool m.f)
theorem Cm.ext {X Y : World} {b off : Nat} {l : List Mv} (hc : Cm X b off l) (hb : b < X.heap.size) (e : Ext X Y) : Cm Y b off l := fun j m hm => by
  obtain ⟨a0, a1, a2, a3⟩ := hc j m hm
  exact ⟨keepAt e hb a0, keepAt e hb a1, keepAt e hb a2, keepAt e hb a3⟩
theorem Ml.cm {W : World} {A : Option Addr} {n c : Nat} {l : List Mv} (h : Ml W (.slice A n c) l) (hn : 0 < n) : ∃ b off, A = some ⟨b, off, none⟩ ∧ b < W.heap.size ∧ Cm W b off l := by
  obtain ⟨A', c', e, -, -, hcell⟩ := h
  injection e with e1 e2 e3
  obtain ⟨b, off, e4, hb, hc⟩ := hcell (by omega)
  refine ⟨b, off, by rw [e1, e4], hb, fun j m hm => ?_⟩
  obtain ⟨a0, a1, a2, a3⟩ := hc j m hm
  rw [← Nat.add_assoc] at a1 a2 a3
  exact ⟨a0, a1, a2, a3⟩
theorem q4_new (W : World) (a b c d : Value) (t : TypeId) : Q4 (W.alloc (.cells #[a, b, c, d] t)) W.heap.size a b c d := by
  refine ⟨?_, ?_, ?_, ?_⟩ <;> (rw [World.cell?_alloc_new]; rfl)

set_option maxHeartbeats 8000000 in
set_option maxRecDepth 100000 in
theorem groupR_c (w h : Nat) (b off N c : Nat) (l : List Mv) (W : World) (hs : okSize w h = true) (hlen : N = l.length) (hNc : N ≤ c) (hcm : c ≤ 9223372036854775807) (hb : b < W.heap.size) (hc : Cm W b off l) (hN1 : 1 ≤ N) (hN2 : N ≤ pos w h 2 0 0 0) :
    Calls Try.prog 43 #[.int .i64 w, .int .i64 h, .slice (some ⟨b, off, none⟩) N c] W fun e W' => e = .returned (.bool (grpB w h l)) ∧ Ext W W' := by
  have hs' := okSize_iff.1 hs
  obtain ⟨r, hr⟩ : ∃ r, r = grpB w h l := ⟨_, rfl⟩
  have hNN := pos2_bd (w := w) (h := h) (by omega) (by omega)
  have hNe : pos w h 2 0 0 0 = 8 * w * h := by simp [pos]
  have hmk := make_bool (pos w h 2 0 0 0) (by omega)
  have hbd : ∀ m, has w h m = true → nm w h m < pos w h 2 0 0 0 := fun m hm => nm_bd hm
  have hmv := fun X => movesR_any w h X (by omega) (by omega)
  have hml := mvs_len w h (pos w h 2 0 0 0)
  have hmk0 := Mk.start (w := w) (h := h) (l := l)
  obtain ⟨mv, hmve⟩ : ∃ mv, mv = mvs w h (pos w h 2 0 0 0) := ⟨_, rfl⟩
  rw [← hmve] at hml
  simp only [← hmve] at hmv
  obtain ⟨NN, hNNe⟩ : ∃ NN, NN = pos w h 2 0 0 0 := ⟨_, rfl⟩
  have s5 : IntKind.i64.wrap (8 * (w : Int)) = 8 * (w : Int) := IntWalk.i64_in _ (by omega)
  have s6 : IntKind.i64.wrap (8 * (w : Int) * h) = ((NN : Nat) : Int) := by
    have : (8 * (w : Int) * h) = ((NN : Nat) : Int) := by rw [hNNe, hNe]; simp
    rw [this]; exact IntWalk.i64_in _ (by omega)
  have s7 : 8 * (w : Int) * h = ((NN : Nat) : Int) := by rw [hNNe, hNe]; simp
  rw [← hNNe] at hNN hmk hN2 hml hmk0
  simp only [← hNNe] at hbd
  rw [← hr]
  have hnb := fun m X (hm : has w h m = true) => numberR_any w h m X hs hm
  have haf := fun a b X (ha : has w h a = true) (hb : has w h b = true) => afterR_any w h a b X hs ha hb
  have HS := Lib.hid hs; have HR := Lib.hid hr; have HNB := Lib.hid hnb; have HAF := Lib.hid haf; have HBD := Lib.hid hbd; have HMV := Lib.hid hmv; have HMVE := Lib.hid hmve; have HNNE := Lib.hid hNNe; have HLEN := Lib.hid hlen; have HC := Lib.hid hc; have HMK0 := Lib.hid hmk0
  have S6 := Lib.hid s6; have S7 := Lib.hid s7
  clear hs hr hnb haf hbd hmv hmve hNNe hlen hc hmk0 hNe s6 s7
  obtain ⟨ob, hob⟩ : ∃ ob : Obj, ob = .cells ((List.replicate NN false).map Value.bool).toArray 4 := ⟨_, rfl⟩
  rw [← hob] at hmk
  have HOB := Lib.hid hob; clear hob
  have g1 : ¬ N < 1 := by omega
  have g2 : ¬ NN < N := by omega
  have s6 := S6.out
  have s7 := S7.out
  go_enter Try.func43, Try.ntmps43
  go_wp2_with fail
  refine (sizeR_is HS.out _).mono ?_
  rintro e V ⟨rfl, hx⟩
  have HV : Hid (Ext W V) := Lib.hid (Ext.of hx); clear hx
  go_upto_region 4 with fail
  have hb0 : Br (V.alloc ob) V.heap.size (List.replicate NN false) := by rw [HOB.out]; exact heap_alloc_new _ _
  have he0 : Ext W (V.alloc ob) := HV.out.alc _
  have hgin : W.heap.size ≤ V.heap.size := HV.out.size
  obtain ⟨gin, hgi⟩ : ∃ gin, gin = V.heap.size := ⟨_, rfl⟩
  rw [← hgi] at hb0 hgin ⊢
  generalize V.alloc ob = V2 at *
  clear hgi hmk s6 s7 g1 g2
  have HB0 := Lib.hid hb0; have HE0 := Lib.hid he0; clear hb0 he0
  go_wp2_with fail
  go_loopw [42] (fun i wr => ∃ (k : Nat) (bs : List Bool), i = .int .i64 k ∧ k ≤ N ∧ Br wr gin bs ∧ Mk w h (l.take k) bs ∧ (∀ m ∈ l.take k, has w h m = true) ∧ Ext W wr) (fun i _ => N - (intOf i).toNat)
  case atStart => exact ⟨0, _, rfl, by omega, HB0.out, HMK0.out, by simp, HE0.out⟩
  case round =>
    clear HB0 HE0 HMK0
    obtain ⟨k, bs, rfl, hk, hbr, hmk, hall, hex⟩ := hrel
    have HBR := Lib.hid hbr; have HMK := Lib.hid hmk; have HALL := Lib.hid hall; have HEX := Lib.hid hex; clear hbr hmk hall hex
    by_cases hlt : k < N
    · obtain ⟨m, hm⟩ : ∃ m, l[k]? = some m := ⟨l[k]'(by rw [← HLEN.out]; exact hlt), List.getElem?_eq_getElem _⟩
      obtain ⟨d0, d1, d2, d3⟩ := (HC.out.ext hb HEX.out) k m hm
      have HM := Lib.hid hm; clear hm
      have hq := q4_new wr (.int .i64 m.dx) (.int .i64 m.dy) (.int .i64 m.t) (.bool m.f) 26
      have hqs : wr.heap.size < (wr.alloc (.cells #[.int .i64 m.dx, .int .i64 m.dy, .int .i64 m.t, .bool m.f] 26)).heap.size := by simp
      have HQ := Lib.hid hq; have HQS := Lib.hid hqs; clear hq hqs
      cases hh : has w h m
      · have hrf : r = false := by rw [HR.out]; exact HG.no_has HM.out hh
        have HRF := Lib.hid hrf
        have Hh := Lib.hid hh; clear hh hrf
        go_wp2_with fail
        refine (fits_is (b := false) Hh.out _).mono ?_
        rintro e V ⟨rfl, hx⟩
        have e1 : Ext wr V := nx ((Ext.refl wr).alc _) hx
        have E1 := Lib.hid e1; clear e1 hx d0 d1 d2 d3
        go_wp2
        go_ret
        exact ⟨by rw [HRF.out]; rfl, HEX.out.trans E1.out⟩
      · have Hh := Lib.hid hh; clear hh
        have hbd := HBD.out m Hh.out
        go_wp2_with fail
        refine (fits_is (b := true) Hh.out _).mono ?_
        rintro e V ⟨rfl, hx⟩
        have e1 : Ext wr V := nx ((Ext.refl wr).alc _) hx
        have hq2 := HQ.out.ext HQS.out hx
        have E1 := Lib.hid e1; have HQ2 := Lib.hid hq2; clear e1 hx hq2 d0 d1 d2 d3
        obtain ⟨t0, t1, t2, t3⟩ := HQ2.out
        obtain ⟨nn, hnn⟩ : ∃ nn, nn = nm w h m := ⟨_, rfl⟩
        have hnb2 := fun X => HNB.out m X Hh.out
        rw [← hnn] at hnb2 hbd
        have HNB2 := Lib.hid hnb2; have HNN := Lib.hid hnn; clear hnb2 hnn
        go_wp2_with fail
        refine (HNB2.out _).mono ?_
        rintro e V3 ⟨rfl, hx⟩
        have hex3 := HEX.out.trans (E1.out.trans (Ext.of hx))
        have hbr3 := HBR.out.ext (E1.out.trans (Ext.of hx))
        have hblen : bs.length = NN := by rw [HNNE.out]; exact HMK.out.1
        have cb := hbr3.cell (j := nn) (by omega)
        have fb := hbr3.frozen
        have HEX3 := Lib.hid hex3; have HBR3 := Lib.hid hbr3; clear hex3 hbr3 hblen hx t0 t1 t2 t3
        go_wp2_with fail
        go_roundw
        case rel =>
          refine ⟨k + 1, bs.set nn true, by go_num, by omega, HBR3.out.set nn true, by rw [HNN.out]; exact HMK.out.next HM.out Hh.out, ?_, HEX3.out.sc hgin⟩
          intro x hx
          rw [List.take_add_one, HM.out, List.mem_append] at hx
          rcases hx with h1 | h1
          · exact HALL.out x h1
          · simp at h1; rw [h1]; exact Hh.out
        case measure => simp [intOf]; omega
    · obtain rfl : k = N := by omega
      have hmkf : Mk w h l bs := by have := HMK.out; rwa [HLEN.out, List.take_of_length_le (Nat.le_refl _)] at this
      have hallf : ∀ m ∈ l, has w h m = true := by have := HALL.out; rwa [HLEN.out, List.take_of_length_le (Nat.le_refl _)] at this
      have hpos : 0 < mv.length := by rw [HMVE.out]; exact List.length_pos_of_mem (mvs_mem.2 (one_has HS.out))
      have HMKF := Lib.hid hmkf; have HALLF := Lib.hid hallf; clear hmkf hallf HMK HALL hlt hk
      obtain ⟨wo, rfl⟩ : ∃ wo : World, wo = wr := ⟨_, rfl⟩
      go_wp2_with fail
      refine (HMV.out _).mono ?_
      rintro e V2 ⟨v, rfl, hml2, hx⟩
      have hml3 := hml2
      obtain ⟨A2, c2, rfl, hq1, hq2, -⟩ := hml3
      obtain ⟨b2, off2, rfl, hb2, hc2⟩ := hml2.cm hpos
      have hex2 := HEX.out.trans hx
      have hbr2 := HBR.out.ext hx
      have HEX2 := Lib.hid hex2; have HBR2 := Lib.hid hbr2; have HC2 := Lib.hid hc2; clear hex2 hbr2 hc2 hml2 hx HBR HEX HMV
      obtain ⟨nM, hnM⟩ : ∃ nM, nM = mv.length := ⟨_, rfl⟩
      rw [← hnM] at hml hpos hq1 ⊢
      have HNM := Lib.hid hnM; clear hnM
      go_wp2_with fail
      go_loopw [10, 62] (fun v i wr => ∃ (i0 k0 : Nat), i = .int .i64 i0 ∧ v = .int .i64 k0 ∧ i0 ≤ nM ∧ k0 ≤ k ∧ Pf w h l i0 k0 ∧ Ext V2 wr) (fun _ i _ => nM - (intOf i).toNat)
      case atStart => exact ⟨0, 0, rfl, rfl, by omega, by omega, Pf.start, Ext.refl _⟩
      case round =>
        obtain ⟨i0, k0, rfl, rfl, hi0, hk0, hpf, hex⟩ := hrel
        have HPF := Lib.hid hpf; have HEX := Lib.hid hex; clear hpf hex
        by_cases hlt2 : i0 < nM
        · obtain ⟨m, hm⟩ : ∃ m, mv[i0]? = some m := ⟨mv[i0]'(by rw [← HNM.out]; exact hlt2), List.getElem?_eq_getElem _⟩
          obtain ⟨d0, d1, d2, d3⟩ := (HC2.out.ext hb2 HEX.out) i0 m hm
          have hmh : has w h m = true := mvs_mem.1 (by rw [← HMVE.out]; exact List.mem_of_getElem? hm)
          have hbd := HBD.out m hmh
          have hms : (mvs w h (pos w h 2 0 0 0))[i0]? = some m := by rw [← HMVE.out]; exact hm
          have HM := Lib.hid hms; have HMH := Lib.hid hmh; clear hm hms hmh
          have hq := q4_new wr (.int .i64 m.dx) (.int .i64 m.dy) (.int .i64 m.t) (.bool m.f) 26
          have hqs : wr.heap.size < (wr.alloc (.cells #[.int .i64 m.dx, .int .i64 m.dy, .int .i64 m.t, .bool m.f] 26)).heap.size := by simp
          have HQ := Lib.hid hq; have HQS := Lib.hid hqs; clear hq hqs
          have hnb2 := fun X => HNB.out m X HMH.out
          have hmem := HMKF.out.2 m HMH.out
          obtain ⟨nn, hnn⟩ : ∃ nn, nn = nm w h m := ⟨_, rfl⟩
          rw [← hnn] at hnb2 hbd hmem
          have HNB2 := Lib.hid hnb2; have HNN := Lib.hid hnn; have HMEM := Lib.hid hmem; clear hnb2 hnn hmem
          go_wp2_with fail
          refine (HNB2.out _).mono ?_
          rintro e V3 ⟨rfl, hx⟩
          have e1 : Ext wr V3 := nx ((Ext.refl wr).alc _) hx
          have hq2 := HQ.out.ext HQS.out hx
          have hqlt : wr.heap.size < V3.heap.size := by have := Ext.size hx; have := HQS.out; omega
          have hex3 := HEX.out.trans e1
          have hbr3 := HBR2.out.ext hex3
          have hblen : bs.length = NN := by rw [HNNE.out]; exact HMKF.out.1
          have cb := hbr3.cell (j := nn) (by omega)
          have HEX3 := Lib.hid hex3; have HQ2 := Lib.hid hq2; clear hex3 hbr3 hblen hx e1 hq2 d0 d1 d2 d3
          cases hb0 : bs.getD nn false
          · rw [hb0] at cb
            have hnm : ¬ m ∈ l := fun hmm => by have := HMEM.out.2 hmm; rw [hb0] at this; cases this
            have HNMM := Lib.hid hnm; clear hb0 hnm
            go_wp2_with fail
            go_roundw
            case rel => exact ⟨i0 + 1, k0, by go_num, rfl, by omega, hk0, HPF.out.skip HM.out HNMM.out, HEX3.out⟩
            case measure => simp [intOf]; omega
          · rw [hb0] at cb
            have hmm : m ∈ l := HMEM.out.1 hb0
            have HMM := Lib.hid hmm; clear hb0 hmm
            by_cases hge : k ≤ k0
            · have hrf : r = false := by
                rw [HR.out]
                exact HPF.out.bad HS.out HM.out HMM.out (by rw [List.getElem?_eq_none (by rw [← HLEN.out]; exact hge)]; simp)
              have HRF := Lib.hid hrf; clear hrf
              have hge' : decide (k ≤ k0) = true := decide_eq_true hge
              go_wp2_with fail
              go_quiet (fail)
              go_wp2
              go_ret
              exact ⟨by rw [HRF.out]; rfl, Ext.drwN (HEX2.out.trans HEX3.out) _⟩
            · have hk0lt : k0 < k := by omega
              have hge' : decide (k ≤ k0) = false := decide_eq_false hge
              obtain ⟨x, hx⟩ : ∃ x, l[k0]? = some x := ⟨l[k0]'(by rw [← HLEN.out]; exact hk0lt), List.getElem?_eq_getElem _⟩
              obtain ⟨d0, d1, d2, d3⟩ := (HC.out.ext hb (HEX2.out.trans HEX3.out)) k0 x hx
              obtain ⟨t0, t1, t2, t3⟩ := HQ2.out
              have HX := Lib.hid hx; clear hx
              by_cases hxm : x = m
              · subst hxm
                go_wp2_with fail
                go_quiet (fail)
                clear d0 d1 d2 d3 t0 t1 t2 t3 cb
                go_wp2_with fail
                go_roundw
                case rel => exact ⟨i0 + 1, k0 + 1, by go_num, by go_num, by omega, by omega, HPF.out.hit HM.out HMM.out HX.out, Ext.drwN HEX3.out _⟩
                case measure => simp [intOf]; omega
              · have hrf : r = false := by
                  rw [HR.out]
                  exact HPF.out.bad HS.out HM.out HMM.out (by rw [HX.out]; intro e; injection e with e; exact hxm e)
                have HRF := Lib.hid hrf; clear hrf
                have h4 := mv_ne4 hxm
                clear hxm HX HM HMM HNN HMEM HNB2 HMH HQ HQS HQ2
                obtain ⟨xx, xy, xt, xf⟩ := x
                obtain ⟨mx, my, mt, mf⟩ := m
                simp only at h4 d0 d1 d2 d3 t0 t1 t2 t3
                rcases h4 with h4 | h4 | h4 | h4
                · go_wp2_with fail
                  go_quiet (fail)
                  go_wp2
                  go_ret
                  exact ⟨by rw [HRF.out]; rfl, Ext.drwN (HEX2.out.trans HEX3.out) _⟩
                · go_wp2_with fail
                  go_quiet (fail)
                  go_wp2
                  go_ret
                  exact ⟨by rw [HRF.out]; rfl, Ext.drwN (HEX2.out.trans HEX3.out) _⟩
                · go_wp2_with fail
                  go_quiet (fail)
                  go_wp2
                  go_ret
                  exact ⟨by rw [HRF.out]; rfl, Ext.drwN (HEX2.out.trans HEX3.out) _⟩
                · go_wp2_with fail
                  go_quiet (fail)
                  go_wp2
                  go_ret
                  exact ⟨by rw [HRF.out]; rfl, Ext.drwN (HEX2.out.trans HEX3.out) _⟩
        · obtain rfl : i0 = nM := by omega
          have hfin := HPF.out
          rw [HNM.out, HMVE.out] at hfin
          have hfin := hfin.fin
          have HFIN := Lib.hid hfin; clear hfin HPF HNM HC2 hlt2
          obtain ⟨w5, hw5⟩ : ∃ w5 : World, w5 = wr := ⟨_, rfl⟩
          rw [← hw5] at HEX ⊢
          clear hw5
          have hex5 := HEX2.out.trans HEX.out
          have hbr5 := HBR2.out.ext HEX.out
          have HEX5 := Lib.hid hex5; have HBR5 := Lib.hid hbr5; clear hex5 hbr5 HEX HEX2 HBR2
          go_wp2_with fail
          go_loopw [90] (fun i wr => ∃ i1 : Nat, i = .int .i64 i1 ∧ i1 ≤ k ∧ (∀ j a, j < i1 → l[j]? = some a → ∀ b ∈ l, aft w h a b ∈ l) ∧ Ext w5 wr) (fun i _ => k - (intOf i).toNat)
          case atStart => exact ⟨0, rfl, by omega, (fun j a hj => by omega), Ext.refl _⟩
          case round =>
            obtain ⟨i1, rfl, hi1, hcl, hex⟩ := hrel
            have HCL := Lib.hid hcl; have HEX := Lib.hid hex; clear hcl hex
            by_cases hlt3 : i1 < k
            · obtain ⟨a, ha⟩ : ∃ a, l[i1]? = some a := ⟨l[i1]'(by rw [← HLEN.out]; exact hlt3), List.getElem?_eq_getElem _⟩
              obtain ⟨d0, d1, d2, d3⟩ := (HC.out.ext hb (HEX5.out.trans HEX.out)) i1 a ha
              have HA := Lib.hid ha; clear ha
              obtain ⟨w6, hw6⟩ : ∃ w6 : World, w6 = wr := ⟨_, rfl⟩
              rw [← hw6] at HEX d0 d1 d2 d3 ⊢
              clear hw6
              have hq := q4_new w6 (.int .i64 a.dx) (.int .i64 a.dy) (.int .i64 a.t) (.bool a.f) 26
              have e6 : Ext w6 (w6.alloc (.cells #[.int .i64 a.dx, .int .i64 a.dy, .int .i64 a.t, .bool a.f] 26)) := (Ext.refl w6).alc _
              have hs6 : w6.heap.size < (w6.alloc (.cells #[.int .i64 a.dx, .int .i64 a.dy, .int .i64 a.t, .bool a.f] 26)).heap.size := by simp
              have hex6 := HEX.out.trans e6
              go_wp2_with fail
              generalize (w6.alloc (.cells #[.int .i64 a.dx, .int .i64 a.dy, .int .i64 a.t, .bool a.f] 26)) = w7 at *
              have HQ := Lib.hid hq; have HEX7 := Lib.hid hex6; clear hq hex6 e6 d0 d1 d2 d3
              go_loopw [96] (fun i wr => ∃ j1 : Nat, i = .int .i64 j1 ∧ j1 ≤ k ∧ (∀ j b, j < j1 → l[j]? = some b → aft w h a b ∈ l) ∧ Ext w7 wr) (fun i _ => k - (intOf i).toNat)
              case atStart => exact ⟨0, rfl, by omega, (fun j b hj => by omega), Ext.refl _⟩
              case round =>
                obtain ⟨j1, rfl, hj1, hcl2, hex2⟩ := hrel
                have HCL2 := Lib.hid hcl2; have HEX8 := Lib.hid hex2; clear hcl2 hex2
                by_cases hlt4 : j1 < k
                · obtain ⟨b', hb'⟩ : ∃ b', l[j1]? = some b' := ⟨l[j1]'(by rw [← HLEN.out]; exact hlt4), List.getElem?_eq_getElem _⟩
                  obtain ⟨d0, d1, d2, d3⟩ := (HC.out.ext hb (HEX5.out.trans (HEX7.out.trans HEX8.out))) j1 b' hb'
                  have hq9 := q4_new wr (.int .i64 b'.dx) (.int .i64 b'.dy) (.int .i64 b'.t) (.bool b'.f) 26
                  obtain ⟨t0, t1, t2, t3⟩ := HQ.out.ext hs6 HEX8.out
                  have hs8 : w6.heap.size < wr.heap.size := Nat.lt_of_lt_of_le hs6 HEX8.out.size
                  have hah := HALLF.out a (List.mem_of_getElem? HA.out)
                  have hbh := HALLF.out b' (List.mem_of_getElem? hb')
                  have hxh := aft_has HS.out hah hbh
                  have hbd := HBD.out _ hxh
                  have haf := fun X => HAF.out a b' X hah hbh
                  have hnb2 := fun X => HNB.out _ X hxh
                  have hmem := HMKF.out.2 _ hxh
                  obtain ⟨x, hx⟩ : ∃ x, x = aft w h a b' := ⟨_, rfl⟩
                  rw [← hx] at hxh hbd hmem
                  simp only [← hx] at haf hnb2
                  obtain ⟨nn, hnn⟩ : ∃ nn, nn = nm w h x := ⟨_, rfl⟩
                  rw [← hnn] at hbd hmem
                  simp only [← hnn] at hnb2
                  have HB' := Lib.hid hb'; have HAF2 := Lib.hid haf; have HNB2 := Lib.hid hnb2; have HMEM := Lib.hid hmem; have HX := Lib.hid hx
                  clear hb' haf hnb2 hmem hnn hx hah hbh hxh
                  obtain ⟨u0, u1, u2, u3⟩ := hq9
                  go_wp2_with fail
                  refine (HAF2.out _).mono ?_
                  rintro e V3 ⟨rfl, hx⟩
                  have e1 : Ext wr V3 := nx ((Ext.refl wr).alc _) hx
                  have E1 := Lib.hid e1; clear e1 hx d0 d1 d2 d3 t0 t1 t2 t3 u0 u1 u2 u3
                  go_wp2_with fail
                  refine (HNB2.out _).mono ?_
                  rintro e V4 ⟨rfl, hx⟩
                  have hex9 := HEX8.out.trans (E1.out.trans (Ext.of hx))
                  have hbr9 := HBR5.out.ext (HEX7.out.trans hex9)
                  have hblen : bs.length = NN := by rw [HNNE.out]; exact HMKF.out.1
                  have cb := hbr9.cell (j := nn) (by omega)
                  have HEX9 := Lib.hid hex9; clear hex9 hbr9 hblen hx
                  cases hb0 : bs.getD nn false
                  · rw [hb0] at cb
                    have hnm : ¬ x ∈ l := fun hmm => by have := HMEM.out.2 hmm; rw [hb0] at this; cases this
                    have hrf : r = false := by
                      rw [HR.out]
                      exact grp_not_closed HS.out (List.mem_of_getElem? HA.out) (List.mem_of_getElem? HB'.out) (by rw [← HX.out]; exact hnm)
                    have HRF := Lib.hid hrf; clear hrf hb0 hnm
                    go_wp2
                    go_ret
                    exact ⟨by rw [HRF.out]; rfl, HEX5.out.trans (HEX7.out.trans HEX9.out)⟩
                  · rw [hb0] at cb
                    have hmm : x ∈ l := HMEM.out.1 hb0
                    have HMM := Lib.hid hmm; clear hb0 hmm
                    go_wp2_with fail
                    go_roundw
                    case rel =>
                      refine ⟨j1 + 1, by go_num, by omega, fun j y hj hy => ?_, HEX9.out⟩
                      rcases Nat.lt_or_ge j j1 with h1 | h1
                      · exact HCL2.out j y h1 hy
                      · obtain rfl : j = j1 := by omega
                        rw [HB'.out] at hy; injection hy with hy; rw [← hy, ← HX.out]; exact HMM.out
                    case measure => simp [intOf]; omega
                · obtain rfl : j1 = k := by omega
                  go_wp2_with fail
                  go_roundw
                  case rel =>
                    refine ⟨i1 + 1, by go_num, by omega, fun j y hj hy b hbm => ?_, HEX7.out.trans HEX8.out⟩
                    rcases Nat.lt_or_ge j i1 with h1 | h1
                    · exact HCL.out j y h1 hy b hbm
                    · obtain rfl : j = i1 := by omega
                      rw [HA.out] at hy; injection hy with hy; rw [← hy]
                      obtain ⟨q, hq⟩ := List.getElem?_of_mem hbm
                      exact HCL2.out q b (by rw [HLEN.out]; exact (List.getElem?_eq_some_iff.1 hq).1) hq
                  case measure => simp [intOf]; omega
            · obtain rfl : i1 = k := by omega
              have hcl : ∀ a ∈ l, ∀ b ∈ l, aft w h a b ∈ l := fun a ha => by
                obtain ⟨q, hq⟩ := List.getElem?_of_mem ha
                exact HCL.out q a (by rw [HLEN.out]; exact (List.getElem?_eq_some_iff.1 hq).1) hq
              by_cases hkk : k0 = i1
              · subst hkk
                have hfin := HFIN.out
                rw [HLEN.out] at hfin
                obtain ⟨b0, hb0⟩ : ∃ b0, bs.getD 0 false = b0 := ⟨_, rfl⟩
                have hrr : r = b0 := by rw [HR.out]; exact grp_end_t HS.out HALLF.out hfin hcl HMKF.out hb0
                have hblen : bs.length = NN := by rw [HNNE.out]; exact HMKF.out.1
                have cb := (HBR5.out.ext HEX.out).cell (j := 0) (by omega)
                rw [hb0] at cb
                have g1 : ((k0 : Int) == (k0 : Int)) = true := by simp
                have HRR := Lib.hid hrr; clear hrr hfin hb0 hblen hcl
                go_wp2
                go_ret
                exact ⟨by rw [HRR.out]; rfl, HEX5.out.trans HEX.out⟩
              · have hlt9 : k0 < l.length := by rw [← HLEN.out]; omega
                have hrf : r = false := by rw [HR.out]; exact grp_end_f HS.out HFIN.out hlt9
                have g1 : ((k0 : Int) == (i1 : Int)) = false := by simp; omega
                have HRF := Lib.hid hrf; clear hrf hcl hlt9 hkk
                go_wp2
                go_ret
                exact ⟨by rw [HRF.out]; rfl, HEX5.out.trans HEX.out⟩

set_option maxRecDepth 100000 in
theorem groupR_f (w h : Int) (A : Option Addr) (N c : Nat) (W : World) (hs : okSize w h = false) :
    Calls Try.prog 43 #[.int .i64 w, .int .i64 h, .slice A N c] W fun e W' => e = .returned (.bool false) ∧ Ext W W' := by
  have HS := Lib.hid hs; clear hs
  go_enter Try.func43, Try.ntmps43
  go_wp2_with fail
  refine (sizeR_is HS.out _).mono ?_
  rintro e V ⟨rfl, hx⟩
  have E : Hid (Ext W V) := Lib.hid hx; clear hx
  go_wp2
  go_ret
  exact ⟨rfl, E.out⟩
set_option maxRecDepth 100000 in
theorem groupR_zero (w h : Nat) (A : Option Addr) (c : Nat) (W : World) (hs : okSize w h = true) :
    Calls Try.prog 43 #[.int .i64 w, .int .i64 h, .slice A 0 c] W fun e W' => e = .returned (.bool false) ∧ Ext W W' := by
  have HS := Lib.hid hs; clear hs
  go_enter Try.func43, Try.ntmps43
  go_wp2_with fail
  refine (sizeR_is HS.out _).mono ?_
  rintro e V ⟨rfl, hx⟩
  have E : Hid (Ext W V) := Lib.hid hx; clear hx
  go_wp2
  go_ret
  exact ⟨rfl, E.out⟩
set_option maxRecDepth 100000 in
theorem groupR_many (w h : Nat) (A : Option Addr) (N c NN : Nat) (W : World) (hs : okSize w h = true) (hN : NN < N) (hNN : NN = 8 * w * h) (hNc : N ≤ c) (hcm : c ≤ 9223372036854775807) :
    Calls Try.prog 43 #[.int .i64 w, .int .i64 h, .slice A N c] W fun e W' => e = .returned (.bool false) ∧ Ext W W' := by
  have hs' := okSize_iff.1 hs
  have HS := Lib.hid hs; clear hs
  have hb : 8 * w * h ≤ 512 := by have := Nat.mul_le_mul (show w ≤ 8 by omega) (show h ≤ 8 by omega); rw [Nat.mul_assoc]; omega
  have s5 : IntKind.i64.wrap (8 * (w : Int)) = 8 * (w : Int) := IntWalk.i64_in _ (by omega)
  have s7 : 8 * (w : Int) * h = ((NN : Nat) : Int) := by rw [hNN]; simp
  have s6 : IntKind.i64.wrap (8 * (w : Int) * h) = ((NN : Nat) : Int) := by rw [s7]; exact IntWalk.i64_in _ (by omega)
  have g0 : decide (NN < N) = true := decide_eq_true hN
  have g1 : ¬ N < 1 := by omega
  clear hNN hb
  go_enter Try.func43, Try.ntmps43
  go_wp2_with fail
  refine (sizeR_is HS.out _).mono ?_
  rintro e V ⟨rfl, hx⟩
  have E : Hid (Ext W V) := Lib.hid hx; clear hx
  go_wp2
  go_ret
  exact ⟨rfl, E.out⟩
/-- is it a group? -/
theorem groupR_any (w h : Nat) (v : Value) (l : List Mv) (W : World) (hs : okSize w h = true) (hml : Ml W v l) :
    Calls Try.prog 43 #[.int .i64 w, .int .i64 h, v] W fun e W' => e = .returned (.bool (grpB w h l)) ∧ Ext W W' := by
  have h0 := hml
  obtain ⟨A, c, rfl, h1, h2, -⟩ := h0
  by_cases hz : l.length = 0
  · have := List.eq_nil_of_length_eq_zero hz
    subst this
    rw [grp_nil]
    exact groupR_zero w h A c W hs
  · by_cases hN : pos w h 2 0 0 0 < l.length
    · rw [grp_many hs hN]
      exact groupR_many w h A _ c _ W hs hN (by simp [pos]) h1 h2
    · obtain ⟨b, off, rfl, hb, hc⟩ := hml.cm (by omega)
      exact groupR_c w h b off _ c l W hs rfl h1 h2 hb hc (by omega) (by omega)
end Go.Proofs.Ytgjanbgehbpciaa
