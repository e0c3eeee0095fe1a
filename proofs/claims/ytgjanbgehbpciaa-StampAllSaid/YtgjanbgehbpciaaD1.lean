/- Walks: closed. -/
import Derived.Test.YtgjanbgehbpciaaCm
namespace Go.Proofs.Ytgjanbgehbpciaa
open Go.RowKit

/-- at the head of the first loop -/
def CL (W1 : World) (w h NN : Nat) (l : List Mv) (k : Nat) (v g : Value) (wr : World) : Prop :=
  ∃ ms gin bs, wr.ownsRow W1.heap.size 31 4 v ms.length (ms.flatMap mc) ∧ ms.length ≤ k ∧ (∀ m ∈ ms, m ∈ l) ∧ (∀ j m, j < k → l[j]? = some m → Gen w h ms m) ∧
    g = .slice (some ⟨gin, 0, none⟩) NN NN ∧ Br wr gin bs ∧ GB w h ms bs ∧ (∀ n, bs.getD n false = true → has w h (dec w h n) = true) ∧ Ext W1 wr
/-- at the head of the second loop -/
def FR (W5 : World) (w h : Nat) (bs : List Bool) (k : Nat) (v : Value) (wr : World) : Prop :=
  wr.ownsRow W5.heap.size 31 4 v (fnd w h bs k).length ((fnd w h bs k).flatMap mc) ∧ Ext W5 wr

set_option maxHeartbeats 4000000 in
set_option maxRecDepth 100000 in
theorem closed_c (w h : Nat) (A : Option Addr) (N c : Nat) (l : List Mv) (W : World) (hs : okSize w h = true) (hl : ∀ m ∈ l, has w h m = true) (hml : Ml W (.slice A N c) l) (hN : N ≤ 1000) :
    Calls Try.prog 63 #[.agg #[.int .i64 w, .int .i64 h], .slice A N c] W fun e W' => ∃ v, e = .returned v ∧ Ml W' v (grp w h l) ∧ Ext W W' := by
  have hs' := okSize_iff.1 hs
  obtain ⟨i0, hi, hz0, hz1, hz2⟩ := info_parts info31
  have hNN := pos2_bd (w := w) (h := h) (by omega) (by omega)
  obtain ⟨NN, hNNe⟩ : ∃ NN, NN = pos w h 2 0 0 0 := ⟨_, rfl⟩
  rw [← hNNe] at hNN
  have hmd : ∀ (A : Option Addr) (N c : Nat) (ms : List Mv) (X : World), (∀ m ∈ ms, has w h m = true) → Ml X (.slice A N c) ms → N ≤ 100000 →
      Calls Try.prog 86 #[.agg #[.int .i64 w, .int .i64 h], .slice A N c] X fun e W' => ∃ g bs, e = .returned (.slice (some ⟨g, 0, none⟩) NN NN) ∧ Br W' g bs ∧ GB w h ms bs ∧ (∀ n, bs.getD n false = true → has w h (dec w h n) = true) ∧ X.heap.size ≤ g ∧ Ext X W' := by
    rw [hNNe]; exact fun A N c ms X h1 h2 h3 => madeOf_c w h A N c ms X hs h1 h2 h3
  have hnd : ∀ n X, n < NN → Calls Try.prog 85 #[.agg #[.int .i64 w, .int .i64 h], .int .i64 (n : Nat)] X fun e W' => e = .returned (.agg #[.int .i64 (dec w h n).dx, .int .i64 (dec w h n).dy, .int .i64 (dec w h n).t, .bool (dec w h n).f]) ∧ Ext X W' := by
    rw [hNNe]; exact fun n X hn => numbered_any w h n X hs hn
  have hnb := fun m X (hm : has w h m = true) => number_any w h m X hs hm
  have hbd : ∀ m, has w h m = true → nm w h m < NN := by rw [hNNe]; exact fun m hm => nm_bd hm
  have HNE := Lib.hid hNNe; have HMD := Lib.hid hmd; have HND := Lib.hid hnd; have HNB := Lib.hid hnb; have HBD := Lib.hid hbd; have HS := Lib.hid hs; have HL := Lib.hid hl; have HML := Lib.hid hml
  clear hNNe hmd hnd hnb hbd hs hl hml hs'
  have hlen : N = l.length := HML.out.len
  have HLEN := Lib.hid hlen; clear hlen
  go_enter Try.func63, Try.ntmps63
  go_upto_region 2 with fail
  have q1 : C2 (W.alloc (.cells #[.int .i64 w, .int .i64 h] 84)) W.heap.size (.int .i64 w) (.int .i64 h) := by
    refine ⟨?_, ?_⟩ <;> (rw [World.cell?_alloc_new]; rfl)
  have bb := al1 W (.cells #[.int .i64 w, .int .i64 h] 84)
  have zz : (W.alloc (.cells #[.int .i64 w, .int .i64 h] 84)).heap.size = W.heap.size + 1 := by simp
  generalize (W.alloc (.cells #[.int .i64 w, .int .i64 h] 84)) = W1 at *
  have zle : W.heap.size < W1.heap.size := by omega
  have BB : Hid (Ext W W1) := Lib.hid bb; have H1 := Lib.hid q1
  clear bb zz
  obtain ⟨q0, q1'⟩ := q1
  go_wp2_with fail
  refine (HMD.out none 0 0 [] W1 (fun m hm => by cases hm) (Ml.nil_ W1) (by omega)).mono ?_
  rintro e V ⟨gin, bs, rfl, hbr, hgb, hbh, hge, hx⟩
  have HBR := Lib.hid hbr; have HGB := Lib.hid hgb; have HBH := Lib.hid hbh; have HV := Lib.hid hx; clear hbr hgb hbh hge hx q0 q1'
  go_wp2_with fail
  go_loopw [5, 6, 17] (fun v g i wr => ∃ k : Nat, i = .int .i64 k ∧ k ≤ N ∧ CL W1 w h NN l k v g wr) (fun _ _ i _ => N - (intOf i).toNat)
  case atStart => exact ⟨0, rfl, by omega, [], gin, bs, ⟨rfl, .inl ⟨rfl, rfl⟩⟩, by simp, (fun m hm => by cases hm), (fun j m hj => by omega), rfl, HBR.out, HGB.out, HBH.out, HV.out⟩
  case round =>
    clear HBR HGB HBH HV
    obtain ⟨k, rfl, hk, ms, gin, bs, hown, hmk, hsub, hgen, rfl, hbr, hgb, hbh, hex⟩ := hrel
    have HOWN := Lib.hid hown; have HSUB := Lib.hid hsub; have HGEN := Lib.hid hgen; have HBR := Lib.hid hbr; have HGB := Lib.hid hgb; have HBH := Lib.hid hbh; have HEX := Lib.hid hex
    clear hown hsub hgen hbr hgb hbh hex
    by_cases hlt : k < N
    · obtain ⟨m, hm⟩ : ∃ m, l[k]? = some m := ⟨l[k]'(by rw [← HLEN.out]; exact hlt), List.getElem?_eq_getElem _⟩
      obtain ⟨A', c', e, -, -, hcell⟩ := HML.out
      injection e with e1 e2 e3
      obtain ⟨b, off, e4, hb, hc⟩ := hcell (by rw [← HLEN.out]; omega)
      rw [e4] at e1
      subst e1
      clear e2 e3 hcell e4
      obtain ⟨d0, d1, d2, d3⟩ := hc k m hm
      have E0 := Lib.hid (BB.out.trans HEX.out)
      replace d0 := keepAt E0.out hb d0; replace d1 := keepAt E0.out hb d1; replace d2 := keepAt E0.out hb d2; replace d3 := keepAt E0.out hb d3
      clear hc
      rw [← Nat.add_assoc] at d1 d2 d3
      obtain ⟨z0, z1⟩ := H1.out.ext zle HEX.out
      have hszz : W.heap.size < wr.heap.size := Nat.lt_of_lt_of_le zle HEX.out.size
      have hmh : has w h m = true := HL.out m (List.mem_of_getElem? hm)
      have hnb := HBD.out m hmh
      have HM := Lib.hid hm; have HMH := Lib.hid hmh; clear hm hmh
      go_wp2_with fail
      refine (HNB.out m _ HMH.out).mono ?_
      rintro e V ⟨rfl, hx⟩
      have e1 : Ext wr V := nx ((Ext.refl wr).alc _) hx
      have hq : Q4 (wr.alloc (.cells #[.int .i64 m.dx, .int .i64 m.dy, .int .i64 m.t, .bool m.f] 31)) wr.heap.size (.int .i64 m.dx) (.int .i64 m.dy) (.int .i64 m.t) (.bool m.f) := by
        refine ⟨?_, ?_, ?_, ?_⟩ <;> (rw [World.cell?_alloc_new]; rfl)
      have hq2 := hq.ext (by simp) hx
      have hqlt : wr.heap.size < V.heap.size := by have := Ext.size hx; simp at this; omega
      have E1 := Lib.hid e1; have HQ := Lib.hid hq2; clear e1 hx hq hq2 d0 d1 d2 d3 z0 z1
      obtain ⟨z0, z1⟩ := H1.out.ext zle (HEX.out.trans E1.out)
      obtain ⟨nn, hnn⟩ : ∃ nn, nn = nm w h m := ⟨_, rfl⟩
      rw [← hnn] at hnb ⊢
      have HNN2 := Lib.hid hnn; clear hnn
      have hblen : bs.length = NN := by rw [HNE.out]; exact HGB.out.1
      have hbr2 := HBR.out.ext E1.out
      have cb := hbr2.cell (j := nn) (by omega)
      have HBR2 := Lib.hid hbr2; have HBL := Lib.hid hblen; clear hbr2 hblen
      have hszv : W.heap.size < V.heap.size := Nat.lt_of_lt_of_le hszz E1.out.size
      cases hb0 : bs.getD nn false
      · rw [hb0] at cb
        have HB0 := Lib.hid hb0; clear hb0
        obtain ⟨t0, t1, t2, t3⟩ := HQ.out
        have hown := (World.ownsRow.ext HOWN.out E1.out).alloc (.cells #[.int .i64 m.dx, .int .i64 m.dy, .int .i64 m.t, .bool m.f] 31)
        have hbase := (HEX.out.trans E1.out).size
        go_wp2_with (at_builtin; refine wpList_append_own _ rfl _ _ 51 rfl W1.heap.size 31 i0 (.agg #[.int .i64 0, .int .i64 0, .int .i64 0, .bool false]) 4 32 Try.underlying51 hi hz0 hz1 hz2 rfl (by decide) _ _ _ rfl hown ⟨V.heap.size, 0, none⟩ 1 1 (mc m) rfl rfl ?c1 ?c2 ?c3 ?c4 ?c5 ?_)
        case c1 =>
          intro j u hj
          match j, hj with
          | 0, hj => simp [mc] at hj; subst hj; simp [Addr.add]
          | 1, hj => simp [mc] at hj; subst hj; simp [Addr.add]
          | 2, hj => simp [mc] at hj; subst hj; simp [Addr.add]
          | 3, hj => simp [mc] at hj; subst hj; simp [Addr.add]
          | j + 4, hj => simp [mc] at hj
        case c2 => intro u hu; simp [mc] at hu; rcases hu with rfl | rfl | rfl | rfl <;> rfl
        case c3 => unfold maxLen; omega
        case c4 => omega
        case c5 => simp; omega
        intro v' w9 hown' hgrow _
        have e9 : Ext W1 w9 := Below.grown ((HEX.out.trans E1.out).alc (.cells #[.int .i64 m.dx, .int .i64 m.dy, .int .i64 m.t, .bool m.f] 31)) hgrow (by simp; omega) (fun k hk => by have := (hown.lt k hk).1; omega)
        have hown9 : w9.ownsRow W1.heap.size 31 4 v' (ms ++ [m]).length ((ms ++ [m]).flatMap mc) := by
          rw [List.length_append, List.length_singleton, List.flatMap_append]
          simpa using hown'
        have hml9 := Ml.of_row hown9
        have hml0 := hml9
        obtain ⟨A9, c9, rfl, -⟩ := hml0
        have hms9 : ∀ x ∈ ms ++ [m], has w h x = true := fun x hx => by
          rcases List.mem_append.1 hx with h1 | h1
          · exact HL.out x (HSUB.out x h1)
          · rw [List.mem_singleton] at h1; rw [h1]; exact HMH.out
        have hlen9 : (ms ++ [m]).length = ms.length + 1 := by simp
        obtain ⟨n9, hn9⟩ : ∃ n9, n9 = (ms ++ [m]).length := ⟨_, rfl⟩
        rw [← hn9] at hml9 hown9 hlen9 ⊢
        have E9 := Lib.hid e9; have HOWN9 := Lib.hid hown9; have HML9 := Lib.hid hml9; have HMS9 := Lib.hid hms9; have HN9 := Lib.hid hn9
        have hn9le : n9 ≤ k + 1 := by omega
        clear e9 hown9 hml9 hms9 hn9 hlen9 hown hown' hgrow t0 t1 t2 t3 cb z0 z1
        obtain ⟨z0, z1⟩ := H1.out.ext zle E9.out
        have hsz9 : W.heap.size < w9.heap.size := Nat.lt_of_lt_of_le zle E9.out.size
        go_wp2_with fail
        refine (HMD.out A9 n9 c9 (ms ++ [m]) _ HMS9.out HML9.out (by omega)).mono ?_
        rintro e V3 ⟨g3, bs3, rfl, hbr3, hgb3, hbh3, hge3, hx3⟩
        have HBR3 := Lib.hid hbr3; have HGB3 := Lib.hid hgb3; have HBH3 := Lib.hid hbh3; have HX3 := Lib.hid hx3
        clear hbr3 hgb3 hbh3 hge3 hx3 z0 z1
        go_wp2_with fail
        go_roundw
        case rel =>
          refine ⟨k + 1, by go_num, by omega, ms ++ [m], g3, bs3, ?_, by rw [← HN9.out]; exact hn9le, ?_, ?_, rfl, HBR3.out, HGB3.out, HBH3.out, E9.out.trans HX3.out⟩
          · rw [← HN9.out]; exact World.ownsRow.ext HOWN9.out HX3.out
          · intro x hx
            rcases List.mem_append.1 hx with h1 | h1
            · exact HSUB.out x h1
            · rw [List.mem_singleton] at h1; rw [h1]; exact List.mem_of_getElem? HM.out
          · intro j x hj hx
            rcases Nat.lt_or_ge j k with h1 | h1
            · exact (HGEN.out j x h1 hx).mono (fun y hy => by simp [hy])
            · obtain rfl : j = k := by omega
              rw [HM.out] at hx; injection hx with hx; rw [← hx]
              exact Gen.self HS.out HMS9.out (by simp)
        case measure => simp [intOf]; omega
      · rw [hb0] at cb
        have HB0 := Lib.hid hb0; clear hb0
        go_wp2_with fail
        go_roundw
        case rel =>
          refine ⟨k + 1, by go_num, by omega, ms, gin, bs, World.ownsRow.ext HOWN.out E1.out, by omega, HSUB.out, ?_, rfl, HBR2.out, HGB.out, HBH.out, HEX.out.trans E1.out⟩
          intro j x hj hx
          rcases Nat.lt_or_ge j k with h1 | h1
          · exact HGEN.out j x h1 hx
          · obtain rfl : j = k := by omega
            rw [HM.out] at hx; injection hx with hx; rw [← hx]
            exact (HGB.out.2 _ HMH.out).1 (by rw [← HNN2.out]; exact HB0.out)
        case measure => simp [intOf]; omega
    · obtain rfl : k = N := by omega
      have hfin : fnd w h bs NN = grp w h l := by
        rw [HNE.out, fnd_grp HS.out HGB.out HBH.out]
        refine grp_congr fun g => ⟨fun hg => hg.mono HSUB.out, fun hg => ?_⟩
        refine Gen.of HS.out (fun m hm => HL.out m (HSUB.out m hm)) (fun n hn => ?_) hg
        obtain ⟨j, hj⟩ := List.getElem?_of_mem hn
        have hjl : j < l.length := (List.getElem?_eq_some_iff.1 hj).1
        exact HGEN.out j n (by rw [HLEN.out]; exact hjl) hj
      have hblen : Hid (bs.length = NN) := Lib.hid (by rw [HNE.out]; exact HGB.out.1)
      have HFIN := Lib.hid hfin; clear hfin HOWN HSUB HGEN HGB HBH
      clear hlt
      go_wp2_with fail
      obtain ⟨wo, rfl⟩ : ∃ wo : World, wo = wr := ⟨_, rfl⟩
      go_loopw [9, 38] (fun v i wr => ∃ k : Nat, i = .int .i64 k ∧ k ≤ NN ∧ FR wo w h bs k v wr) (fun _ i _ => NN - (intOf i).toNat)
      case atStart => exact ⟨0, rfl, by omega, ⟨rfl, .inl ⟨rfl, rfl⟩⟩, Ext.refl _⟩
      case round =>
        obtain ⟨k2, rfl, hk2, hfr⟩ := hrel
        have HF := Lib.hid hfr; clear hfr
        by_cases hlt2 : k2 < NN
        · have hbr := HBR.out.ext HF.out.2
          have cb := hbr.cell (j := k2) (by rw [hblen.out]; exact hlt2)
          clear hbr
          obtain ⟨z0, z1⟩ := H1.out.ext zle (HEX.out.trans HF.out.2)
          have hszz : W.heap.size < wr.heap.size := Nat.lt_of_lt_of_le zle (HEX.out.trans HF.out.2).size
          cases hb0 : bs.getD k2 false
          · rw [hb0] at cb
            have HB0 := Lib.hid hb0; clear hb0
            go_wp2_with fail
            go_roundw
            case rel => exact ⟨k2 + 1, by go_num, by omega, by unfold FR; rw [fnd_no HB0.out]; exact HF.out⟩
            case measure => simp [intOf]; omega
          · rw [hb0] at cb
            have HB0 := Lib.hid hb0; clear hb0
            go_wp2_with fail
            refine (HND.out k2 _ hlt2).mono ?_
            rintro e V ⟨rfl, hx⟩
            have E1 := Lib.hid hx; clear hx cb z0 z1
            have hown := (World.ownsRow.ext HF.out.1 E1.out).alloc (.cells #[.int .i64 (dec w h k2).dx, .int .i64 (dec w h k2).dy, .int .i64 (dec w h k2).t, .bool (dec w h k2).f] 31)
            have hbase := (HF.out.2.trans E1.out).size
            have hfl := fnd_len w h bs k2
            have hnext := fnd_yes (w := w) (h := h) HB0.out
            obtain ⟨m, hm⟩ : ∃ m, m = dec w h k2 := ⟨_, rfl⟩
            rw [← hm] at hown hnext ⊢
            obtain ⟨fl, hfd⟩ : ∃ fl, fl = fnd w h bs k2 := ⟨_, rfl⟩
            rw [← hfd] at hown hnext hfl
            have HNX := Lib.hid hnext; have HFD := Lib.hid hfd; clear hm hnext hfd
            go_wp2_with (at_builtin; refine wpList_append_own _ rfl _ _ 51 rfl wo.heap.size 31 i0 (.agg #[.int .i64 0, .int .i64 0, .int .i64 0, .bool false]) 4 32 Try.underlying51 hi hz0 hz1 hz2 rfl (by decide) _ _ _ rfl hown ⟨V.heap.size, 0, none⟩ 1 1 (mc m) rfl rfl ?c1 ?c2 ?c3 ?c4 ?c5 ?_)
            case c1 =>
              intro j u hj
              match j, hj with
              | 0, hj => simp [mc] at hj; subst hj; simp [Addr.add]
              | 1, hj => simp [mc] at hj; subst hj; simp [Addr.add]
              | 2, hj => simp [mc] at hj; subst hj; simp [Addr.add]
              | 3, hj => simp [mc] at hj; subst hj; simp [Addr.add]
              | j + 4, hj => simp [mc] at hj
            case c2 => intro u hu; simp [mc] at hu; rcases hu with rfl | rfl | rfl | rfl <;> rfl
            case c3 => unfold maxLen; omega
            case c4 => omega
            case c5 => simp; omega
            intro v' w9 hown' hgrow _
            have e9 : Ext wo w9 := Below.grown ((HF.out.2.trans E1.out).alc (.cells #[.int .i64 m.dx, .int .i64 m.dy, .int .i64 m.t, .bool m.f] 31)) hgrow (by simp; omega) (fun k hk => by have := (hown.lt k hk).1; omega)
            have hfr : Hid (FR wo w h bs (k2 + 1) v' w9) := Lib.hid (by
              unfold FR
              rw [HNX.out, List.length_append, List.length_singleton, List.flatMap_append]
              exact ⟨by simpa using hown', e9⟩)
            clear e9 hown' hgrow hown
            go_wp2_with fail
            go_roundw
            case rel => exact ⟨k2 + 1, by go_num, by omega, hfr.out⟩
            case measure => simp [intOf]; omega
        · obtain rfl : k2 = NN := by omega
          go_wp2
          go_ret
          refine ⟨_, rfl, ?_, BB.out.trans (HEX.out.trans HF.out.2)⟩
          have := Ml.of_row HF.out.1
          rwa [HFIN.out] at this

theorem closed_any (w h : Nat) (v : Value) (l : List Mv) (W : World) (hs : okSize w h = true) (hl : ∀ m ∈ l, has w h m = true) (hml : Ml W v l) (hN : l.length ≤ 1000) :
    Calls Try.prog 63 #[.agg #[.int .i64 w, .int .i64 h], v] W fun e W' => ∃ v, e = .returned v ∧ Ml W' v (grp w h l) ∧ Ext W W' := by
  have h0 := hml
  obtain ⟨A, c, rfl, -⟩ := h0
  exact closed_c w h A l.length c l W hs hl hml hN
end Go.Proofs.Ytgjanbgehbpciaa
