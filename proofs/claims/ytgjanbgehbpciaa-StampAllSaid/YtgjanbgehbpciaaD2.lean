/- Walks: hasGroup. -/
import Derived.Test.YtgjanbgehbpciaaD1
namespace Go.Proofs.Ytgjanbgehbpciaa
open Go.RowKit

/-- after k moves: all are moves and rise, z is the number of the last one -/
structure HG (w h : Nat) (l : List Mv) (k : Nat) (z : Int) : Prop where
  has : ∀ m ∈ l.take k, has w h m = true ∧ ((nm w h m : Nat) : Int) ≤ z
  ris : Ris w h (l.take k)
  lo : -1 ≤ z
  hi : z ≤ 511
  at_ : (k = 0 ∧ z = -1) ∨ ∃ m ∈ l.take k, ((nm w h m : Nat) : Int) = z
section
variable {w h : Nat} {l : List Mv} {k : Nat} {z : Int} {m : Mv}
theorem HG.start : HG w h l 0 (-1) := ⟨by simp, by simp [Ris], by omega, by omega, .inl ⟨rfl, rfl⟩⟩
theorem HG.next (hs : okSize w h = true) (hk : HG w h l k z) (hm : l[k]? = some m) (hh : Go.Proofs.Ytgjanbgehbpciaa.has w h m = true) (hz : z < ((nm w h m : Nat) : Int)) : HG w h l (k + 1) ((nm w h m : Nat) : Int) := by
  have hs' := okSize_iff.1 hs
  have e : l.take (k + 1) = l.take k ++ [m] := by rw [List.take_add_one, hm]; rfl
  have hb := nm_bd hh
  have hN := pos2_bd (w := w) (h := h) (by omega) (by omega)
  refine ⟨fun x hx => ?_, ?_, by omega, by omega, .inr ⟨m, by rw [e]; simp, rfl⟩⟩
  · rw [e] at hx
    rcases List.mem_append.1 hx with h1 | h1
    · have := hk.has x h1; exact ⟨this.1, by omega⟩
    · rw [List.mem_singleton] at h1; subst h1; exact ⟨hh, Int.le_refl _⟩
  · rw [e]
    unfold Ris
    rw [List.pairwise_append]
    refine ⟨hk.ris, by simp, fun a ha b hb => ?_⟩
    rw [List.mem_singleton] at hb; subst hb
    have := (hk.has a ha).2
    omega
theorem HG.no_has (hm : l[k]? = some m) (hh : Go.Proofs.Ytgjanbgehbpciaa.has w h m = false) : grpB w h l = false :=
  grpB_f fun hg => by have := hg.has m (List.mem_of_getElem? hm); rw [hh] at this; cases this
theorem HG.no_ris (hk : HG w h l k z) (hm : l[k]? = some m) (hz : ((nm w h m : Nat) : Int) ≤ z) : grpB w h l = false :=
  grpB_f fun hg => by
    rcases hk.at_ with ⟨_, h0⟩ | ⟨x, hx, hxz⟩
    · omega
    · have hr := hg.ris
      unfold Ris at hr
      rw [← List.take_append_drop k l, List.pairwise_append] at hr
      have hd : m ∈ l.drop k := List.mem_of_getElem? (i := 0) (by rw [List.getElem?_drop, Nat.add_zero]; exact hm)
      have := hr.2.2 x hx m hd
      omega
theorem HG.fin (hs : okSize w h = true) (hk : HG w h l l.length z) : grpB w h l = decide ((grp w h l).length = l.length) := by
  have e : l.take l.length = l := List.take_of_length_le (Nat.le_refl _)
  have h1 := hk.has; have h2 := hk.ris
  rw [e] at h1 h2
  exact grpB_len hs (fun m hm => (h1 m hm).1) h2
end

set_option maxHeartbeats 4000000 in
set_option maxRecDepth 100000 in
theorem hasGroup_c (w h : Nat) (A : Option Addr) (N c : Nat) (l : List Mv) (W : World) (hs : okSize w h = true) (hml : Ml W (.slice A N c) l) (hN : N ≤ 1000) :
    Calls Try.prog 65 #[.agg #[.int .i64 w, .int .i64 h], .slice A N c] W fun e W' => e = .returned (.bool (grpB w h l)) ∧ Ext W W' := by
  have hs' := okSize_iff.1 hs
  have hcl := fun X (hl : ∀ m ∈ l, has w h m = true) (hml : Ml X (.slice A N c) l) => closed_c w h A N c l X hs hl hml hN
  have hnb := fun m X (hm : has w h m = true) => number_any w h m X hs hm
  obtain ⟨r, hr⟩ : ∃ r, r = grpB w h l := ⟨_, rfl⟩
  have hgl := grp_len w h l
  have hNN := pos2_bd (w := w) (h := h) (by omega) (by omega)
  have hgl2 : (grp w h l).length ≤ 512 := by omega
  rw [← hr]
  have HCL := Lib.hid hcl; have HNB := Lib.hid hnb; have HS := Lib.hid hs; have HML := Lib.hid hml; have HR := Lib.hid hr
  clear hcl hnb hs hml hs' hr hgl hNN
  have hlen : N = l.length := HML.out.len
  have HLEN := Lib.hid hlen; clear hlen
  go_enter Try.func65, Try.ntmps65
  go_upto_region 1 with fail
  have q1 : C2 (W.alloc (.cells #[.int .i64 w, .int .i64 h] 84)) W.heap.size (.int .i64 w) (.int .i64 h) := by
    refine ⟨?_, ?_⟩ <;> (rw [World.cell?_alloc_new]; rfl)
  have bb := al1 W (.cells #[.int .i64 w, .int .i64 h] 84)
  have zz : (W.alloc (.cells #[.int .i64 w, .int .i64 h] 84)).heap.size = W.heap.size + 1 := by simp
  generalize (W.alloc (.cells #[.int .i64 w, .int .i64 h] 84)) = W1 at *
  have zle : W.heap.size < W1.heap.size := by omega
  have BB : Hid (Ext W W1) := Lib.hid bb; have H1 := Lib.hid q1
  clear bb zz
  obtain ⟨q0, q1'⟩ := q1
  go_wp2_with fail
  refine (valid_is HS.out _).mono ?_
  rintro e V ⟨rfl, hx⟩
  have HV : Hid (Ext W1 V) := Lib.hid (Ext.of hx); clear hx q0 q1'
  go_wp2_with fail
  go_loopw [5, 13] (fun v i wr => ∃ (k : Nat) (z : Int), i = .int .i64 k ∧ v = .int .i64 z ∧ k ≤ N ∧ HG w h l k z ∧ Ext W1 wr) (fun _ i _ => N - (intOf i).toNat)
  case atStart => exact ⟨0, -1, rfl, rfl, by omega, HG.start, HV.out⟩
  case round =>
    clear HV
    obtain ⟨k, z, rfl, rfl, hk, hhg, hex⟩ := hrel
    have hz1 := hhg.lo
    have hz2 := hhg.hi
    have HH := Lib.hid hhg; have HEX := Lib.hid hex; clear hhg hex
    obtain ⟨z0, z1⟩ := H1.out.ext zle HEX.out
    have hszz : W.heap.size < wr.heap.size := Nat.lt_of_lt_of_le zle HEX.out.size
    by_cases hlt : k < N
    · obtain ⟨m, hm⟩ : ∃ m, l[k]? = some m := ⟨l[k]'(by rw [← HLEN.out]; exact hlt), List.getElem?_eq_getElem _⟩
      obtain ⟨A', c', e, -, -, hcell⟩ := HML.out
      injection e with e1 e2 e3
      obtain ⟨b, off, e4, hb, hc⟩ := hcell (by rw [← HLEN.out]; omega)
      rw [e4] at e1
      subst e1
      clear e2 e3 hcell e4
      obtain ⟨d0, d1, d2, d3⟩ := hc k m hm
      have E0 := Lib.hid (BB.out.trans HEX.out)
      replace d0 := keepAt E0.out hb d0; replace d1 := keepAt E0.out hb d1; replace d2 := keepAt E0.out hb d2; replace d3 := keepAt E0.out hb d3
      clear hc
      rw [← Nat.add_assoc] at d1 d2 d3
      have HM := Lib.hid hm; clear hm
      have hq : Q4 (wr.alloc (.cells #[.int .i64 m.dx, .int .i64 m.dy, .int .i64 m.t, .bool m.f] 31)) wr.heap.size (.int .i64 m.dx) (.int .i64 m.dy) (.int .i64 m.t) (.bool m.f) := by
        refine ⟨?_, ?_, ?_, ?_⟩ <;> (rw [World.cell?_alloc_new]; rfl)
      have hqs : wr.heap.size < (wr.alloc (.cells #[.int .i64 m.dx, .int .i64 m.dy, .int .i64 m.t, .bool m.f] 31)).heap.size := by simp
      have HQ := Lib.hid hq; have HQS := Lib.hid hqs; clear hq hqs
      cases hh : has w h m
      · have hrf : r = false := by rw [HR.out]; exact HG.no_has HM.out hh
        have HRF := Lib.hid hrf
        have Hh := Lib.hid hh; clear hh hrf
        go_wp2_with fail
        refine (has_is (b := false) Hh.out _).mono ?_
        rintro e V ⟨rfl, hx⟩
        have e1 : Ext wr V := nx ((Ext.refl wr).alc _) hx
        have E1 := Lib.hid e1; clear e1 hx d0 d1 d2 d3 z0 z1
        go_wp2
        go_ret
        exact ⟨by rw [HRF.out]; rfl, BB.out.trans (HEX.out.trans E1.out)⟩
      · have Hh := Lib.hid hh; clear hh
        have hbd := nm_bd Hh.out
        go_wp2_with fail
        refine (has_is (b := true) Hh.out _).mono ?_
        rintro e V ⟨rfl, hx⟩
        have e1 : Ext wr V := nx ((Ext.refl wr).alc _) hx
        have hq2 := HQ.out.ext HQS.out hx
        have hqlt : wr.heap.size < V.heap.size := by have := Ext.size hx; have := HQS.out; omega
        have E1 := Lib.hid e1; have HQ2 := Lib.hid hq2; clear e1 hx hq2 d0 d1 d2 d3 z0 z1
        obtain ⟨z0, z1⟩ := H1.out.ext zle (HEX.out.trans E1.out)
        obtain ⟨t0, t1, t2, t3⟩ := HQ2.out
        have hszv : W.heap.size < V.heap.size := Nat.lt_of_lt_of_le hszz E1.out.size
        obtain ⟨nn, hnn⟩ : ∃ nn, nn = nm w h m := ⟨_, rfl⟩
        have hnb2 := fun X => HNB.out m X Hh.out
        rw [← hnn] at hnb2 hbd
        have HNB2 := Lib.hid hnb2; have HNN := Lib.hid hnn; clear hnb2 hnn
        by_cases hle : (nn : Int) ≤ z
        · have hrf : r = false := by rw [HR.out]; exact HG.no_ris HH.out HM.out (by rw [← HNN.out]; exact hle)
          have HRF := Lib.hid hrf; clear hrf
          go_wp2_with fail
          refine (HNB2.out _).mono ?_
          rintro e V2 ⟨rfl, hx⟩
          have E2 := Lib.hid hx; clear hx t0 t1 t2 t3 z0 z1
          go_wp2
          go_ret
          exact ⟨by rw [HRF.out]; rfl, BB.out.trans (HEX.out.trans (E1.out.trans E2.out))⟩
        · have hgt : z < (nn : Int) := by omega
          go_wp2_with fail
          refine (HNB2.out _).mono ?_
          rintro e V2 ⟨rfl, hx⟩
          have E2 := Lib.hid hx; clear hx t0 t1 t2 t3 z0 z1
          obtain ⟨z0, z1⟩ := H1.out.ext zle ((HEX.out.trans E1.out).trans E2.out)
          obtain ⟨t0, t1, t2, t3⟩ := HQ2.out.ext hqlt E2.out
          have hszw : W.heap.size < V2.heap.size := Nat.lt_of_lt_of_le hszv E2.out.size
          go_wp2_with fail
          refine (HNB2.out _).mono ?_
          rintro e V3 ⟨rfl, hx⟩
          have E3 := Lib.hid hx; clear hx t0 t1 t2 t3 z0 z1
          go_wp2_with fail
          go_roundw
          case rel => exact ⟨k + 1, _, by go_num, rfl, by omega, by rw [HNN.out]; exact HH.out.next HS.out HM.out Hh.out (by rw [← HNN.out]; exact hgt), ((HEX.out.trans E1.out).trans E2.out).trans E3.out⟩
          case measure => simp [intOf]; omega
    · obtain rfl : k = N := by omega
      have hfin := HH.out
      rw [HLEN.out] at hfin
      have hall : ∀ m ∈ l, has w h m = true := fun m hm => (hfin.has m (by rw [List.take_of_length_le (Nat.le_refl _)]; exact hm)).1
      have hrr := hfin.fin HS.out
      rw [← HR.out, ← HLEN.out] at hrr
      have HRR := Lib.hid hrr; have HALL := Lib.hid hall; clear hrr hall hfin
      go_wp2_with fail
      refine (HCL.out _ HALL.out (HML.out.ext (BB.out.trans HEX.out))).mono ?_
      rintro e V ⟨v, rfl, hml, hx⟩
      obtain ⟨A9, c9, rfl, hc1, hc2, -⟩ := hml
      have E1 := Lib.hid hx; clear hx z0 z1
      obtain ⟨n9, hn9⟩ : ∃ n9, n9 = (grp w h l).length := ⟨_, rfl⟩
      rw [← hn9] at hgl2 hc1 ⊢
      have HN9 := Lib.hid hn9; clear hn9
      by_cases he : n9 = k
      · have g1 : ((n9 : Int) == (k : Int)) = true := by simp [he]
        have hrt : r = true := by rw [HRR.out, ← HN9.out]; exact decide_eq_true he
        have HRT := Lib.hid hrt; clear hrt he
        go_wp2
        go_ret
        exact ⟨by rw [HRT.out]; rfl, BB.out.trans (HEX.out.trans E1.out)⟩
      · have g1 : ((n9 : Int) == (k : Int)) = false := by simp; omega
        have hrt : r = false := by rw [HRR.out, ← HN9.out]; exact decide_eq_false he
        have HRT := Lib.hid hrt; clear hrt he
        go_wp2
        go_ret
        exact ⟨by rw [HRT.out]; rfl, BB.out.trans (HEX.out.trans E1.out)⟩

set_option maxRecDepth 100000 in
theorem hasGroup_f (w h : Int) (v : Value) (W : World) (hs : okSize w h = false) :
    Calls Try.prog 65 #[.agg #[.int .i64 w, .int .i64 h], v] W fun e W' => e = .returned (.bool false) ∧ Ext W W' := by
  have HS := Lib.hid hs; clear hs
  go_enter Try.func65, Try.ntmps65
  go_wp2_with fail
  refine (valid_is HS.out _).mono ?_
  rintro e V ⟨rfl, hx⟩
  have E : Hid (Ext W V) := Lib.hid (nx ((Ext.refl W).alc _) hx); clear hx
  go_wp2
  go_ret
  exact ⟨rfl, E.out⟩
theorem hasGroup_any (w h : Nat) (v : Value) (l : List Mv) (W : World) (hs : okSize w h = true) (hml : Ml W v l) (hN : l.length ≤ 1000) :
    Calls Try.prog 65 #[.agg #[.int .i64 w, .int .i64 h], v] W fun e W' => e = .returned (.bool (grpB w h l)) ∧ Ext W W' := by
  have h0 := hml
  obtain ⟨A, c, rfl, -⟩ := h0
  exact hasGroup_c w h A l.length c l W hs hml hN
end Go.Proofs.Ytgjanbgehbpciaa
