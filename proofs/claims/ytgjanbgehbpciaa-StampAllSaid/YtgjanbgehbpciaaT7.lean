/- Walks: the law StampAll. -/
import Derived.Test.YtgjanbgehbpciaaT6
import Derived.Test.YtgjanbgehbpciaaK5
namespace Go.Proofs.Ytgjanbgehbpciaa
open Go.RowKit

theorem wrapU (x : Int) : 0 ≤ IntKind.u64.wrap x := by
  unfold IntKind.wrap
  simp only [IntKind.bits, IntKind.signed, Bool.false_and, Bool.false_eq_true, if_false]
  exact Int.emod_nonneg _ (by decide)
theorem small (x : Int) (k : Int) (hk : 1 ≤ k) (hk8 : k ≤ 8) : ∃ n : Nat, wrap64 (1 + wrap64 ((IntKind.u64.wrap x).tmod k)) = (n : Int) ∧ 1 ≤ n ∧ (n : Int) ≤ k := by
  have h0 := wrapU x
  rw [Int.tmod_eq_emod_of_nonneg h0]
  have h1 := Int.emod_nonneg (IntKind.u64.wrap x) (by omega : k ≠ 0)
  have h2 := Int.emod_lt_of_pos (IntKind.u64.wrap x) (by omega : 0 < k)
  obtain ⟨r, hr⟩ : ∃ r, r = IntKind.u64.wrap x % k := ⟨_, rfl⟩
  rw [← hr] at h1 h2 ⊢
  have e1 : wrap64 r = r := IntWalk.wrap64_in r ⟨by omega, by omega⟩
  have e2 : wrap64 (1 + r) = 1 + r := IntWalk.wrap64_in _ ⟨by omega, by omega⟩
  rw [e1, e2]
  exact ⟨(1 + r).toNat, by omega, by omega, by omega⟩
theorem pow_small {c k : Nat} (hc : 1 ≤ c ∧ c ≤ 3) (hk : k ≤ 6) : c ^ k ≤ 729 := by
  have h1 : c ^ k ≤ 3 ^ k := Nat.pow_le_pow_left hc.2 k
  have h2 : 3 ^ k ≤ 3 ^ 6 := Nat.pow_le_pow_right (by omega) hk
  omega

set_option maxHeartbeats 1000000 in
set_option maxRecDepth 100000 in
theorem list_g (w h c : Nat) (v : Value) (g : List Mv) (W : World) (hs : okSize w h = true) (hc : 1 ≤ c ∧ c ≤ 8) (hml : Ml W v g) (hng : g.length ≤ 1000) (hG : grpB w h g = false) :
    Calls Try.prog 46 #[.int .i64 w, .int .i64 h, .int .i64 c, v] W fun e W' => e = .returned (.tuple #[.slice none 0 0, .int .i64 2]) ∧ Ext W W' := by
  have hcb : colB (c : Int) = true := by unfold colB; simp; omega
  have hic := fun X => isColours_any c X
  rw [hcb] at hic
  have hhg := fun X (hX : Ext W X) => hasGroup_any w h v g X hs (hml.ext hX) hng
  rw [hG] at hhg
  obtain ⟨A, k, rfl, -⟩ := hml
  obtain ⟨n, hn⟩ : ∃ n, n = g.length := ⟨_, rfl⟩
  rw [← hn] at hhg ⊢
  have HIC := Lib.hid hic; have HHG := Lib.hid hhg
  clear hic hhg hcb hs hn hng hG
  go_enter Try.func46, Try.ntmps46
  go_wp2_with fail
  refine (HIC.out _).mono ?_
  rintro e w' ⟨rfl, rfl⟩
  have q1 : C2 (W.alloc (.cells #[.int .i64 w, .int .i64 h] 84)) W.heap.size (.int .i64 w) (.int .i64 h) := by
    refine ⟨?_, ?_⟩ <;> (rw [World.cell?_alloc_new]; rfl)
  have bb : Ext W (W.alloc (.cells #[.int .i64 w, .int .i64 h] 84)) := (Ext.refl W).alc _
  generalize (W.alloc (.cells #[.int .i64 w, .int .i64 h] 84)) = W1 at *
  have BB := Lib.hid bb; clear bb
  obtain ⟨z0, z1⟩ := q1
  go_wp2_with fail
  refine (HHG.out _ BB.out).mono ?_
  rintro e V ⟨rfl, hx⟩
  have E1 : Hid (Ext W V) := Lib.hid (BB.out.trans hx); clear hx z0 z1
  go_wp2
  go_ret2
  exact ⟨rfl, E1.out⟩

/-- a row of the list in memory -/
theorem rowL {W : World} {w h N base nd cv : Nat} {A : Option Addr} {ds : List Sl} (hr : W.ownsRow base 27 3 (.slice A nd cv) nd (ds.flatMap (encL w h N))) (hp : 0 < nd) :
    ∃ b, A = some ⟨b, 0, none⟩ ∧ b < W.heap.size ∧ nd ≤ cv ∧ ∀ k x, ds[k]? = some x → W.cell? ⟨b, k * 3, none⟩ = some (.int .i64 w) ∧ W.cell? ⟨b, k * 3 + 1, none⟩ = some (.int .i64 h) ∧ W.cell? ⟨b, k * 3 + 2, none⟩ = some (.slice (some ⟨x.b, 0, none⟩) N x.c) := by
  have h0 := hr
  obtain ⟨hl, ⟨e, h2⟩ | ⟨g, cap, cur, e, hg, hh, hnc, hcap, hsz, htake⟩⟩ := hr
  · omega
  · injection e with e1 e2 e3
    subst e1 e3
    have add : ∀ i, (⟨g, 0, none⟩ : Addr).add i = ⟨g, i, none⟩ := fun i => by unfold Addr.add; split <;> simp_all
    have hc : ∀ i u, (ds.flatMap (encL w h N))[i]? = some u → W.cell? ⟨g, i, none⟩ = some u := fun i u hu => by rw [← add]; exact h0.cells (g := g) rfl i u hu
    refine ⟨g, rfl, (Array.getElem?_eq_some_iff.1 hh).1, hnc, fun k x hk => ?_⟩
    obtain ⟨a0, a1, a2⟩ := encL_at w h N ds k x hk
    exact ⟨hc _ _ a0, hc _ _ a1, hc _ _ a2⟩
theorem sumN_take {α : Type} (f : α → Nat) {F : List α} {k : Nat} {x : α} (h : F[k]? = some x) : sumN f (F.take (k + 1)) = sumN f (F.take k) + f x := by
  rw [take_snoc' h, sumN_append]; simp [sumN]
theorem vst_allC {w h c N : Nat} {l : List Int} (hs : okSize w h = true) (hc : c ≤ 8) (hN : N = w * h) (hl : l ∈ allC c N) : vst w h l = true := by
  obtain ⟨h1, h2⟩ := allC_mem.1 hl
  unfold vst
  rw [hs]
  have e1 : decide ((l.length : Int) = (w : Int) * h) = true := by rw [h1, hN]; simp
  have e2 : l.all isCol = true := by
    rw [List.all_eq_true]; intro x hx
    have := h2 x hx
    unfold isCol; simp; omega
  rw [e1, e2]; rfl

set_option maxHeartbeats 8000000 in
set_option maxRecDepth 100000 in
theorem allL_no (w0 h0 c0 : Int) (w h c : Nat) (A0 : Option Addr) (n0 k0 : Nat) (G0 : List Mv) (W : World) (hw : wrap64 (1 + wrap64 ((IntKind.u64.wrap w0).tmod 3)) = (w : Int)) (hh : wrap64 (1 + wrap64 ((IntKind.u64.wrap h0).tmod 2)) = (h : Int)) (hcc : wrap64 (1 + wrap64 ((IntKind.u64.wrap c0).tmod 3)) = (c : Int))
    (hwb : 1 ≤ w ∧ w ≤ 3) (hhb : 1 ≤ h ∧ h ≤ 2) (hcb : 1 ≤ c ∧ c ≤ 3) (hg : Ml W (.slice A0 n0 k0) G0) (hgr : grpB w h G0 = false) :
    Calls Try.prog 10 #[.int .i64 w0, .int .i64 h0, .int .i64 c0, .slice A0 n0 k0] W fun e W' => e = .returned (.bool true) ∧ Ext W W' := by
  have hs : okSize w h = true := okSize_iff.2 (by omega)
  have hmv := fun X (hX : Ext W X) => moves_any A0 n0 k0 G0 X (hg.ext hX)
  have hli := fun X v (hX : Ml X v (G0.take 521)) => list_g w h c v (G0.take 521) X hs (by omega) hX (by rw [List.length_take]; omega) ((grpB_take hs).trans hgr)
  have hgp := fun X (hX : Ext W X) => groupR_any w h _ G0 X hs (hg.ext hX)
  rw [hgr] at hgp
  have HMV := Lib.hid hmv; have HLI := Lib.hid hli; have HGP := Lib.hid hgp; have HW := Lib.hid hw; have HH := Lib.hid hh; have HC := Lib.hid hcc
  clear hmv hli hgp hw hh hcc hg hgr hs
  go_enter Try.func10, Try.ntmps10
  go_wp2_with fail
  simp only [HW.out, HH.out, HC.out]
  refine (HMV.out _ (Ext.refl _)).mono ?_
  rintro e V ⟨v, rfl, hm, hx⟩
  have hm0 := hm
  obtain ⟨A1, c1, rfl, -⟩ := hm
  have E1 := Lib.hid hx; have HM := Lib.hid hm0; clear hx hm0
  obtain ⟨n1, hn1⟩ : ∃ n, n = (G0.take 521).length := ⟨_, rfl⟩
  rw [← hn1] at HM ⊢
  clear hn1
  go_wp2_with fail
  refine (HLI.out _ _ HM.out).mono ?_
  rintro e V2 ⟨rfl, hx⟩
  have E2 := Lib.hid (E1.out.trans hx); clear hx
  go_wp2_with fail
  refine (HGP.out _ E2.out).mono ?_
  rintro e V3 ⟨rfl, hx⟩
  have E3 := Lib.hid (E2.out.trans hx); clear hx
  go_wp2_with fail
  refine (awake_any _).mono ?_
  rintro e V4 ⟨rfl, hx⟩
  have E4 := Lib.hid (E3.out.trans hx); clear hx
  go_wp2
  go_ret
  exact ⟨rfl, E4.out⟩

set_option maxHeartbeats 8000000 in
set_option maxRecDepth 100000 in
theorem allL_ok (w0 h0 c0 : Int) (w h c : Nat) (A0 : Option Addr) (n0 k0 : Nat) (G0 : List Mv) (W : World) (hw : wrap64 (1 + wrap64 ((IntKind.u64.wrap w0).tmod 3)) = (w : Int)) (hh : wrap64 (1 + wrap64 ((IntKind.u64.wrap h0).tmod 2)) = (h : Int)) (hcc : wrap64 (1 + wrap64 ((IntKind.u64.wrap c0).tmod 3)) = (c : Int))
    (hwb : 1 ≤ w ∧ w ≤ 3) (hhb : 1 ≤ h ∧ h ≤ 2) (hcb : 1 ≤ c ∧ c ≤ 3) (hg : Ml W (.slice A0 n0 k0) G0) (hG : IsG w h G0) :
    Calls Try.prog 10 #[.int .i64 w0, .int .i64 h0, .int .i64 c0, .slice A0 n0 k0] W fun e W' => e = .returned (.bool true) ∧ Ext W W' := by
  have hs : okSize w h = true := okSize_iff.2 (by omega)
  have hs' := okSize_iff.1 hs
  obtain ⟨N, hN⟩ : ∃ N, N = w * h := ⟨_, rfl⟩
  have hNb : N ≤ 6 := by rw [hN]; exact Nat.mul_le_mul (show w ≤ 3 by omega) (show h ≤ 2 by omega)
  have hN1 : 1 ≤ N := by rw [hN]; exact Nat.mul_le_mul (show 1 ≤ w by omega) (show 1 ≤ h by omega)
  have s1 : (w : Int) * h = ((N : Nat) : Int) := by rw [hN]; simp
  have s2 : IntKind.i64.wrap ((w : Int) * h) = ((N : Nat) : Int) := by rw [s1]; exact IntWalk.i64_in _ (by omega)
  have hgn : G0.length ≤ 521 := by
    have := ris_len hs hG.has hG.ris
    have hNN := pos2_bd (w := w) (h := h) (by omega) (by omega)
    omega
  have htk : G0.take 521 = G0 := List.take_of_length_le hgn
  have hmv : ∀ X, Ml X (.slice A0 n0 k0) G0 → Calls Try.prog 31 #[.slice A0 n0 k0] X fun e Y => ∃ A' n' c', e = .returned (.slice A' n' c') ∧ Ml Y (.slice A' n' c') G0 ∧ Ext X Y := fun X hX => (moves_any A0 n0 k0 G0 X hX).mono (fun e Y ⟨v, e1, hm, hx⟩ => by
    rw [htk] at hm
    have hm' := hm
    obtain ⟨A', c', rfl, -⟩ := hm
    exact ⟨A', _, c', e1, hm', hx⟩)
  have hli := fun X A' n' c' (hX : Ml X (.slice A' n' c') G0) => list_t w h c A' n' c' G0 X hs (by omega) hX (by rw [hX.len]; omega) hG N hN (Nat.le_trans (pow_small hcb (by omega)) (by omega))
  have horb := fun X (l : List Int) (hl : l ∈ allC c N) => orbit_w (w := w) (h := h) (L := l) (Gl := G0) (vst_allC hs (by omega) hN hl) (grpB_t hG) hgn X
  simp only [← hN] at horb
  have hsum := sum_orbits (c := c) hs hN hG
  have hon := fun (l : List Int) (hl : l ∈ allC c N) K (hK : Orb w h N l G0 K) => Orb.onum_ hs hN hG hl hK
  have hfh := fun (l : List Int) (hl : l ∈ allC c N) (hF : isF w h N G0 l = true) K (hK : Orb w h N l G0 K) => first_head hs hN hG hl hF hK
  have hsorted : ((allC c N).filter (isF w h N G0)).Pairwise (fun a b => ltL a b = true) := List.Pairwise.filter _ (allC_sorted c N)
  have hple := fun k (hk : k ≤ N) => pow_small hcb (show k ≤ 6 by omega)
  have hsame : ∀ X (A1 A2 : Option Addr) (c1 c2 : Nat) (x y : List Int), Il X (.slice A1 N c1) x → Il X (.slice A2 N c2) y → Calls Try.prog 20 #[.agg #[.int .i64 w, .int .i64 h, .slice A1 N c1], .agg #[.int .i64 w, .int .i64 h, .slice A2 N c2]] X fun e Y => e = .returned (.bool (decide (x = y))) ∧ Ext X Y := fun X A1 A2 c1 c2 x y h1 h2 =>
    same_eq w h A1 A2 N c1 N c2 x y X h1 h2 (by omega) (by omega)
  have HMV := Lib.hid hmv; have HLI := Lib.hid hli; have HORB := Lib.hid horb; have HSUM := Lib.hid hsum; have HON := Lib.hid hon; have HFH := Lib.hid hfh; have HSO := Lib.hid hsorted; have HPL := Lib.hid hple; have HSA := Lib.hid hsame
  have HW := Lib.hid hw; have HH := Lib.hid hh; have HC := Lib.hid hcc; have HG := Lib.hid hg
  clear hmv hli horb hsum hon hfh hsorted hple hsame hw hh hcc hg hs hs' htk hgn hN hG
  go_enter Try.func10, Try.ntmps10
  go_wp2_with fail
  simp only [HW.out, HH.out, HC.out]
  refine (HMV.out _ HG.out).mono ?_
  rintro e V ⟨A1, n1, c1, rfl, hm, hx⟩
  have E1 := Lib.hid hx; have HM := Lib.hid hm; clear hx hm
  go_wp2_with fail
  refine (HLI.out _ _ _ _ HM.out).mono ?_
  rintro e V2 ⟨Bz, Av, nd, cv, ds, rfl, hnd, hmap, hrow, hil, hx⟩
  have E2 := Lib.hid (E1.out.trans hx); have HND := Lib.hid hnd; have HMAP := Lib.hid hmap; have HROW := Lib.hid hrow; have HIL := Lib.hid hil; clear hx hnd hmap hrow hil HLI HM E1
  obtain ⟨F, hF⟩ : ∃ F, F = (allC c N).filter (isF w h N G0) := ⟨_, rfl⟩
  rw [← hF] at HMAP HSUM HSO
  have HF := Lib.hid hF; clear hF
  have hFl : nd = F.length := by rw [HND.out, ← HMAP.out, List.length_map]
  have hnd5 : nd ≤ 729 := by
    have h1 : F.length ≤ c ^ N := by
      rw [HF.out]; refine Nat.le_trans (List.length_filter_le _ _) ?_
      rw [allC_len]; exact Nat.le_refl _
    have h2 := HPL.out N (Nat.le_refl _)
    omega
  have HFL := Lib.hid hFl; clear hFl
  go_wp2_with fail
  go_loop [12, 58] (fun v i => ∃ k x : Nat, i = .int .i64 k ∧ k ≤ N ∧ v = .int .i64 x ∧ x ≤ 729 ∧ Hid (x = c ^ k)) (fun _ i => N - (intOf i).toNat)
  case atStart => exact ⟨0, 1, rfl, by omega, rfl, by omega, Lib.hid (by simp)⟩
  case round =>
    obtain ⟨k, x, rfl, hk, rfl, hx, hp⟩ := hrel
    by_cases hlt : k < N
    · have hxc : x * c ≤ 729 * 3 := Nat.mul_le_mul hx hcb.2
      obtain ⟨y, hy⟩ : ∃ y, y = x * c := ⟨_, rfl⟩
      have hyi : (x : Int) * (c : Int) = (y : Nat) := by rw [hy]; simp
      have hyw : IntKind.i64.wrap ((x : Int) * (c : Int)) = (y : Nat) := by rw [hyi]; exact IntWalk.i64_in _ (by omega)
      have hyp : y = c ^ (k + 1) := by rw [hy, hp.out, Nat.pow_succ]
      have hyb : y ≤ 729 := by rw [hyp]; exact HPL.out _ (by omega)
      have HY := Lib.hid hyp; clear hyp hy hxc hp
      go_wp2_with fail
      go_round
      case rel => exact ⟨k + 1, y, by go_num, by omega, rfl, hyb, HY⟩
      case measure => simp [intOf]; omega
    · obtain rfl : k = N := by omega
      clear hlt s1 s2
      go_wp2_with fail
      go_loopw [11, 66] (fun s i wr => ∃ j z : Nat, i = .int .i64 j ∧ j ≤ nd ∧ s = .int .i64 z ∧ z ≤ 729 ∧ Hid (z = sumN (onum w h k c G0) (F.take j)) ∧ Ext V2 wr) (fun _ i _ => nd - (intOf i).toNat)
      case atStart => exact ⟨0, 0, rfl, by omega, rfl, by omega, Lib.hid (by simp [sumN]), Ext.refl _⟩
      case round =>
        obtain ⟨j, z, rfl, hj, rfl, hz, hsz, hex⟩ := hrel
        have ER := Lib.hid hex; have lwr := hex.size; clear hex
        by_cases hlj : j < nd
        · obtain ⟨x0, hx0⟩ : ∃ x, ds[j]? = some x := ⟨ds[j]'(by rw [← HND.out]; exact hlj), List.getElem?_eq_getElem _⟩
          have hxm := List.mem_of_getElem? hx0
          have hFj : F[j]? = some x0.l := by rw [← HMAP.out, List.getElem?_map, hx0]; rfl
          have hlm := List.mem_of_getElem? hFj
          rw [HF.out, List.mem_filter] at hlm
          obtain ⟨hla, hlf⟩ := hlm
          obtain ⟨bl, rfl, hbl, hncv, hcl⟩ := rowL (World.ownsRow.ext HROW.out ER.out) (by omega)
          obtain ⟨d0, d1, d2⟩ := hcl j x0 hx0
          have hilx := (HIL.out x0 hxm).below ER.out
          have hprev : Hid (0 < j → ∃ y, ds[j - 1]? = some y ∧ decide (x0.l = y.l) = false) := Lib.hid (fun hp => by
            obtain ⟨y, hy⟩ : ∃ y, ds[j - 1]? = some y := ⟨ds[j - 1]'(by rw [← HND.out]; omega), List.getElem?_eq_getElem _⟩
            refine ⟨y, hy, decide_eq_false (fun e => ?_)⟩
            have hFy : F[j - 1]? = some y.l := by rw [← HMAP.out, List.getElem?_map, hy]; rfl
            obtain ⟨p1, p2⟩ := List.getElem?_eq_some_iff.1 hFy
            obtain ⟨q1, q2⟩ := List.getElem?_eq_some_iff.1 hFj
            have := List.pairwise_iff_getElem.1 HSO.out (j - 1) j p1 q1 (by omega)
            rw [p2, q2, e, ltL_irrefl] at this
            cases this)
          obtain ⟨xb, hxb⟩ : ∃ b, b = x0.b := ⟨_, rfl⟩
          obtain ⟨xc, hxc⟩ : ∃ b, b = x0.c := ⟨_, rfl⟩
          obtain ⟨xl, hxl⟩ : ∃ b, b = x0.l := ⟨_, rfl⟩
          rw [← hxb, ← hxc] at d2 hilx
          rw [← hxl] at hilx hla hlf hFj hprev
          have hnum := HON.out xl hla
          have hhd := HFH.out xl hla hlf
          have hor := fun X => HORB.out X xl hla
          have hnext := sumN_take (onum w h k c G0) hFj
          have htot : sumN (onum w h k c G0) (F.take (j + 1)) ≤ 729 := Nat.le_trans (sumN_take_le _ _ _) (by rw [HSUM.out]; exact HPL.out k (Nat.le_refl _))
          have HNUM := Lib.hid hnum; have HHD := Lib.hid hhd; have HOR := Lib.hid hor; have HNX := Lib.hid hnext; have HTOT := Lib.hid htot; have HIX := Lib.hid hilx; have HCL := Lib.hid hcl
          clear hnum hhd hor hnext htot hilx hcl hla hlf hFj hxm hx0 hxb hxc hxl
          have q8 : Q3 (wr.alloc (.cells #[.int .i64 w, .int .i64 h, .slice (some ⟨xb, 0, none⟩) k xc] 27)) wr.heap.size (.int .i64 w) (.int .i64 h) (.slice (some ⟨xb, 0, none⟩) k xc) := by
            refine ⟨?_, ?_, ?_⟩ <;> (rw [World.cell?_alloc_new]; rfl)
          have e8 : Ext wr (wr.alloc (.cells #[.int .i64 w, .int .i64 h, .slice (some ⟨xb, 0, none⟩) k xc] 27)) := (Ext.refl wr).alc _
          have s8 : wr.heap.size < (wr.alloc (.cells #[.int .i64 w, .int .i64 h, .slice (some ⟨xb, 0, none⟩) k xc] 27)).heap.size := by simp
          go_upto_region 13 with fail
          generalize (wr.alloc (.cells #[.int .i64 w, .int .i64 h, .slice (some ⟨xb, 0, none⟩) k xc] 27)) = W8 at *
          have E8 := Lib.hid (ER.out.trans e8); have HQ8 := Lib.hid q8; have HIX8 := Lib.hid (HIX.out.below e8); have lbl : bl < W8.heap.size := Nat.lt_of_lt_of_le hbl e8.size
          have HCL8 : Hid (∀ i x, ds[i]? = some x → W8.cell? ⟨bl, i * 3, none⟩ = some (.int .i64 w) ∧ W8.cell? ⟨bl, i * 3 + 1, none⟩ = some (.int .i64 h) ∧ W8.cell? ⟨bl, i * 3 + 2, none⟩ = some (.slice (some ⟨x.b, 0, none⟩) k x.c)) := Lib.hid (fun i x hx => by obtain ⟨u0, u1, u2⟩ := HCL.out i x hx; exact ⟨keepAt e8 hbl u0, keepAt e8 hbl u1, keepAt e8 hbl u2⟩)
          clear q8 d0 d1 d2 e8 HIX HCL
          go_cut [15, 16] from 71 to 77 (fun s15 s16 wx => OCut W8 w h k xl G0 s15 s16 wx)
          case first =>
            refine wp_region_noPanic ?_
            refine wp_pool 7 [some 72, some 73, some 74, some 75, some 71, some 76, some 77] [(6, 4)] [] [(fun (v : Value) (_ : World) => v = .slice A0 n0 k0), (fun (v : Value) (X : World) => ∃ A' n' c', v = .slice A' n' c' ∧ Ml X (.slice A' n' c') G0), (fun (v : Value) (_ : World) => v = .agg #[.int .i64 w, .int .i64 h, .slice (some ⟨xb, 0, none⟩) k xc]), (fun (v : Value) (X : World) => ∃ gf cap ne es, v = (.tuple #[(.slice (some ⟨gf, 0, none⟩) ne cap), .int .i64 0]) ∧ OS X w h k xl G0 gf cap ne es), (fun (v : Value) (X : World) => ∃ gf cap ne es, v = (.tuple #[(.slice (some ⟨gf, 0, none⟩) ne cap), .int .i64 0]) ∧ OS X w h k xl G0 gf cap ne es), (fun (v : Value) (X : World) => ∃ gf cap ne es, v = (.slice (some ⟨gf, 0, none⟩) ne cap) ∧ OS X w h k xl G0 gf cap ne es), (fun (v : Value) (_ : World) => v = .int .i64 0)] [noF, noF, noF, noF, noF, noF, noF] (by kernel_rfl) (by kernel_rfl) (by kernel_rfl) (by kernel_rfl) (by kernel_rfl) (by kernel_rfl) (by kernel_rfl) (by kernel_rfl) (fun _ _ _ _ h => h) ⟨Stays.pure _, (fun _ _ _ e ⟨A', n', c', h1, h2⟩ => ⟨A', n', c', h1, h2.ext e⟩), Stays.pure _, (fun _ _ _ e ⟨gf, cap, ne, es, h1, h2⟩ => ⟨gf, cap, ne, es, h1, h2.ext e⟩), (fun _ _ _ e ⟨gf, cap, ne, es, h1, h2⟩ => ⟨gf, cap, ne, es, h1, h2.ext e⟩), (fun _ _ _ e ⟨gf, cap, ne, es, h1, h2⟩ => ⟨gf, cap, ne, es, h1, h2.ext e⟩), Stays.pure _, True.intro⟩ ?steps ?done
            case steps =>
              simp only [List.take_succ_cons, List.take_zero]
              refine Steps.cons (fun (v : Value) (_ : World) => v = .slice A0 n0 k0) [] rfl (by kernel_rfl) rfl (by kernel_rfl) (fun y X ex0 hf K hK => ?_) ?_
              · clear hf
                have ex := (Ext.drw (Ext.refl _)).trans ex0
                refine Box.mk ?_
                simp only [fill, Act.put, Nat.reduceAdd, List.setIfInBounds_toArray, List.set_cons_zero, List.set_cons_succ] at hK ⊢
                go_simp
                exact hK.out _ _ rfl (Ext.refl _) (fun b hb => by cases hb)
              refine Steps.cons (fun (v : Value) (X : World) => ∃ A' n' c', v = .slice A' n' c' ∧ Ml X (.slice A' n' c') G0) [0] rfl (by kernel_rfl) rfl (by kernel_rfl) (fun y X ex0 hf K hK => ?_) ?_
              · have h0 : ((fun (v : Value) (_ : World) => v = .slice A0 n0 k0)) (y 0) X := hf.1
                clear hf
                have ex := (Ext.drw (Ext.refl _)).trans ex0
                refine Box.mk ?_
                simp only [fill, Act.put, Nat.reduceAdd, List.setIfInBounds_toArray, List.set_cons_zero, List.set_cons_succ, h0] at hK ⊢
                go_simp
                refine (HMV.out _ (HG.out.ext (E2.out.trans (E8.out.trans ex)))).mono ?_
                rintro e V ⟨A', n', c', rfl, hil, hb⟩
                try go_wp2_with fail
                exact hK.out _ _ ⟨A', n', c', rfl, hil⟩ hb (fun b hb => by cases hb)
              refine Steps.cons (fun (v : Value) (_ : World) => v = .agg #[.int .i64 w, .int .i64 h, .slice (some ⟨xb, 0, none⟩) k xc]) [] rfl (by kernel_rfl) rfl (by kernel_rfl) (fun y X ex0 hf K hK => ?_) ?_
              · clear hf
                have ex := (Ext.drw (Ext.refl _)).trans ex0
                refine Box.mk ?_
                simp only [fill, Act.put, Nat.reduceAdd, List.setIfInBounds_toArray, List.set_cons_zero, List.set_cons_succ] at hK ⊢
                obtain ⟨q0, q1, q2⟩ := Q3.ext HQ8.out (by omega) ex
                go_simp
                exact hK.out _ _ rfl (Ext.refl _) (fun b hb => by cases hb)
              refine Steps.cons (fun (v : Value) (X : World) => ∃ gf cap ne es, v = (.tuple #[(.slice (some ⟨gf, 0, none⟩) ne cap), .int .i64 0]) ∧ OS X w h k xl G0 gf cap ne es) [1, 2] rfl (by kernel_rfl) rfl (by kernel_rfl) (fun y X ex0 hf K hK => ?_) ?_
              · have hh1 : ((fun (v : Value) (X : World) => ∃ A' n' c', v = .slice A' n' c' ∧ Ml X (.slice A' n' c') G0)) (y 1) X := hf.1
                refine Exists.elim hh1 (fun A1 hx1_0 => ?_)
                refine Exists.elim hx1_0 (fun n1 hx1_1 => ?_)
                refine Exists.elim hx1_1 (fun c1 hx1_2 => ?_)
                have h1 := hx1_2.1
                have il1 := hx1_2.2
                clear hh1 hx1_0 hx1_1 hx1_2
                have h2 : ((fun (v : Value) (_ : World) => v = .agg #[.int .i64 w, .int .i64 h, .slice (some ⟨xb, 0, none⟩) k xc])) (y 2) X := hf.2.1
                clear hf
                have ex := (Ext.drw (Ext.refl _)).trans ex0
                refine Box.mk ?_
                simp only [fill, Act.put, Nat.reduceAdd, List.setIfInBounds_toArray, List.set_cons_zero, List.set_cons_succ, h1, h2] at hK ⊢
                go_simp
                refine (HOR.out _ (some ⟨xb, 0, none⟩) k xc A1 n1 c1 (HIX8.out.below ex) il1).mono ?_
                rintro e V ⟨gf9, cap9, ne9, es9, rfl, hos, hb⟩
                try go_wp2_with fail
                exact hK.out _ _ ⟨_, _, _, _, rfl, hos⟩ hb (fun b hb => by cases hb)
              refine Steps.cons (fun (v : Value) (X : World) => ∃ gf cap ne es, v = (.tuple #[(.slice (some ⟨gf, 0, none⟩) ne cap), .int .i64 0]) ∧ OS X w h k xl G0 gf cap ne es) [3] rfl (by kernel_rfl) rfl (by kernel_rfl) (fun y X ex0 hf K hK => ?_) ?_
              · have hh3 : ((fun (v : Value) (X : World) => ∃ gf cap ne es, v = (.tuple #[(.slice (some ⟨gf, 0, none⟩) ne cap), .int .i64 0]) ∧ OS X w h k xl G0 gf cap ne es)) (y 3) X := hf.1
                refine Exists.elim hh3 (fun gf3 hx3_0 => ?_)
                refine Exists.elim hx3_0 (fun cap3 hx3_1 => ?_)
                refine Exists.elim hx3_1 (fun ne3 hx3_2 => ?_)
                refine Exists.elim hx3_2 (fun es3 hx3_3 => ?_)
                have h3 := hx3_3.1
                have os3 := hx3_3.2
                clear hh3 hx3_0 hx3_1 hx3_2 hx3_3
                clear hf
                have ex := (Ext.drw (Ext.refl _)).trans ex0
                refine Box.mk ?_
                simp only [fill, Act.put, Nat.reduceAdd, List.setIfInBounds_toArray, List.set_cons_zero, List.set_cons_succ, h3] at hK ⊢
                go_simp
                exact hK.out _ _ ⟨_, _, _, _, rfl, os3⟩ (Ext.refl _) (fun b hb => by cases hb)
              refine Steps.cons (fun (v : Value) (X : World) => ∃ gf cap ne es, v = (.slice (some ⟨gf, 0, none⟩) ne cap) ∧ OS X w h k xl G0 gf cap ne es) [4] rfl (by kernel_rfl) rfl (by kernel_rfl) (fun y X ex0 hf K hK => ?_) ?_
              · have hh4 : ((fun (v : Value) (X : World) => ∃ gf cap ne es, v = (.tuple #[(.slice (some ⟨gf, 0, none⟩) ne cap), .int .i64 0]) ∧ OS X w h k xl G0 gf cap ne es)) (y 4) X := hf.1
                refine Exists.elim hh4 (fun gf4 hx4_0 => ?_)
                refine Exists.elim hx4_0 (fun cap4 hx4_1 => ?_)
                refine Exists.elim hx4_1 (fun ne4 hx4_2 => ?_)
                refine Exists.elim hx4_2 (fun es4 hx4_3 => ?_)
                have h4 := hx4_3.1
                have os4 := hx4_3.2
                clear hh4 hx4_0 hx4_1 hx4_2 hx4_3
                clear hf
                have ex := (Ext.drw (Ext.refl _)).trans ex0
                refine Box.mk ?_
                simp only [fill, Act.put, Nat.reduceAdd, List.setIfInBounds_toArray, List.set_cons_zero, List.set_cons_succ, h4] at hK ⊢
                go_simp
                exact hK.out _ _ ⟨_, _, _, _, rfl, os4⟩ (Ext.refl _) (fun b hb => by cases hb)
              refine Steps.flw (fun (v : Value) (_ : World) => v = .int .i64 0) [4] rfl (by kernel_rfl) (by kernel_rfl) (fun _ => rfl) (fun y X ex0 hf => ?_) ?_
              · have hh4 : ((fun (v : Value) (X : World) => ∃ gf cap ne es, v = (.tuple #[(.slice (some ⟨gf, 0, none⟩) ne cap), .int .i64 0]) ∧ OS X w h k xl G0 gf cap ne es)) (y 4) X := hf.1
                refine Exists.elim hh4 (fun gf4 hx4_0 => ?_)
                refine Exists.elim hx4_0 (fun cap4 hx4_1 => ?_)
                refine Exists.elim hx4_1 (fun ne4 hx4_2 => ?_)
                refine Exists.elim hx4_2 (fun es4 hx4_3 => ?_)
                have h4 := hx4_3.1
                have os4 := hx4_3.2
                clear hh4 hx4_0 hx4_1 hx4_2 hx4_3
                clear hf
                simp only [fill, Act.put, Nat.reduceAdd, List.setIfInBounds_toArray, List.set_cons_zero, List.set_cons_succ, h4]
                exact ⟨_, ⟨by rfl, fun w => by go_simp⟩, rfl⟩
              exact Steps.nil
            case done =>
              intro y X ex hf hlt hsep
              have h0 : ((fun (v : Value) (_ : World) => v = .slice A0 n0 k0)) (y 0) X := hf.1
              have hh1 : ((fun (v : Value) (X : World) => ∃ A' n' c', v = .slice A' n' c' ∧ Ml X (.slice A' n' c') G0)) (y 1) X := hf.2.1
              refine Exists.elim hh1 (fun A1 hx1_0 => ?_)
              refine Exists.elim hx1_0 (fun n1 hx1_1 => ?_)
              refine Exists.elim hx1_1 (fun c1 hx1_2 => ?_)
              have h1 := hx1_2.1
              have il1 := hx1_2.2
              clear hh1 hx1_0 hx1_1 hx1_2
              have h2 : ((fun (v : Value) (_ : World) => v = .agg #[.int .i64 w, .int .i64 h, .slice (some ⟨xb, 0, none⟩) k xc])) (y 2) X := hf.2.2.1
              have hh3 : ((fun (v : Value) (X : World) => ∃ gf cap ne es, v = (.tuple #[(.slice (some ⟨gf, 0, none⟩) ne cap), .int .i64 0]) ∧ OS X w h k xl G0 gf cap ne es)) (y 3) X := hf.2.2.2.1
              refine Exists.elim hh3 (fun gf3 hx3_0 => ?_)
              refine Exists.elim hx3_0 (fun cap3 hx3_1 => ?_)
              refine Exists.elim hx3_1 (fun ne3 hx3_2 => ?_)
              refine Exists.elim hx3_2 (fun es3 hx3_3 => ?_)
              have h3 := hx3_3.1
              have os3 := hx3_3.2
              clear hh3 hx3_0 hx3_1 hx3_2 hx3_3
              have hh4 : ((fun (v : Value) (X : World) => ∃ gf cap ne es, v = (.tuple #[(.slice (some ⟨gf, 0, none⟩) ne cap), .int .i64 0]) ∧ OS X w h k xl G0 gf cap ne es)) (y 4) X := hf.2.2.2.2.1
              refine Exists.elim hh4 (fun gf4 hx4_0 => ?_)
              refine Exists.elim hx4_0 (fun cap4 hx4_1 => ?_)
              refine Exists.elim hx4_1 (fun ne4 hx4_2 => ?_)
              refine Exists.elim hx4_2 (fun es4 hx4_3 => ?_)
              have h4 := hx4_3.1
              have os4 := hx4_3.2
              clear hh4 hx4_0 hx4_1 hx4_2 hx4_3
              have hh5 : ((fun (v : Value) (X : World) => ∃ gf cap ne es, v = (.slice (some ⟨gf, 0, none⟩) ne cap) ∧ OS X w h k xl G0 gf cap ne es)) (y 5) X := hf.2.2.2.2.2.1
              refine Exists.elim hh5 (fun gf5 hx5_0 => ?_)
              refine Exists.elim hx5_0 (fun cap5 hx5_1 => ?_)
              refine Exists.elim hx5_1 (fun ne5 hx5_2 => ?_)
              refine Exists.elim hx5_2 (fun es5 hx5_3 => ?_)
              have h5 := hx5_3.1
              have os5 := hx5_3.2
              clear hh5 hx5_0 hx5_1 hx5_2 hx5_3
              have h6 : ((fun (v : Value) (_ : World) => v = .int .i64 0)) (y 6) X := hf.2.2.2.2.2.2.1
              clear hf
              have OS5 := Lib.hid os5; clear os3 os4 os5
              clear hsep hlt
              refine Box.mk ?_
              simp only [List.drop_succ_cons, List.drop_zero, fill, Act.put, Nat.reduceAdd, List.setIfInBounds_toArray, List.set_cons_zero, List.set_cons_succ, h0, h1, h2, h3, h4, h5, h6]
              clear h0 h1 h2 h3 h4 h5 h6
              have EX := Lib.hid ex; clear ex
              go_wp2_with fail
              refine NoPanic.normal ?_
              go_wp2_with fail
              go_meet
              exact ⟨gf5, cap5, ne5, es5, rfl, rfl, OS5.out, EX.out⟩
          case rest =>
            obtain ⟨gf, cap, ne, es, rfl, rfl, hos, ex⟩ := hcut
            obtain ⟨z1, z2, z3, z4, z5, zr, za, zo⟩ := hos
            have hne : ne = onum w h k c G0 xl := by rw [z1, ← List.length_map (f := Sd.l)]; exact HNUM.out _ zo
            have hzn : z + ne ≤ 729 := by have := HTOT.out; rw [HNX.out, ← hsz.out, ← hne] at this; exact this
            have hnxt : z + ne = sumN (onum w h k c G0) (F.take (j + 1)) := by rw [HNX.out, ← hsz.out, ← hne]
            obtain ⟨y0, hy0⟩ : ∃ y, es[0]? = some y := ⟨es[0]'(by rw [← z1]; omega), List.getElem?_eq_getElem _⟩
            have hyl : y0.l = xl := by
              have := HHD.out _ zo
              rw [List.getD_eq_getElem?_getD, List.getElem?_map, hy0] at this
              exact this
            obtain ⟨v0, v1, v2⟩ := zr.2.1 0 y0 hy0
            simp only [Nat.zero_mul, Nat.zero_add] at v0 v1 v2
            have hgf := zr.1
            have hax := il_N (za y0 (List.mem_of_getElem? hy0)).1 (za y0 (List.mem_of_getElem? hy0)).2 (by omega)
            rw [hyl] at hax
            have E9 := Lib.hid (E8.out.trans ex); have HV0 := Lib.hid v0; have HV1 := Lib.hid v1; have HV2 := Lib.hid v2; have HAX := Lib.hid hax; have HQ9 := Lib.hid (HQ8.out.ext s8 ex); have HIX9 := Lib.hid (HIX8.out.below ex); have s9 : wr.heap.size < wc.heap.size := Nat.lt_of_lt_of_le s8 ex.size; have lbl9 : bl < wc.heap.size := Nat.lt_of_lt_of_le lbl ex.size
            have HCL9 : Hid (∀ i x, ds[i]? = some x → wc.cell? ⟨bl, i * 3, none⟩ = some (.int .i64 w) ∧ wc.cell? ⟨bl, i * 3 + 1, none⟩ = some (.int .i64 h) ∧ wc.cell? ⟨bl, i * 3 + 2, none⟩ = some (.slice (some ⟨x.b, 0, none⟩) k x.c)) := Lib.hid (fun i x hx => by obtain ⟨u0, u1, u2⟩ := HCL8.out i x hx; exact ⟨keepAt ex lbl u0, keepAt ex lbl u1, keepAt ex lbl u2⟩)
            have HNXT := Lib.hid hnxt; have ne0 : 0 < ne := by omega
            have nez : ((ne : Int) == 0) = false := by simp; omega
            have neb : (ne == 0) = false := by simp; omega
            clear v0 v1 v2 hax hy0 hyl hne hnxt zr za zo z1 ex HQ8 HIX8 HCL8 HTOT HNX hsz
            go_upto_region 14 with fail
            by_cases hj0 : 0 < j
            · have hji : decide ((0 : Int) < (j : Int)) = true := decide_eq_true (by omega)
              have hst : ∀ X (A1 A2 : Option Addr) (c1 c2 : Nat), Il X (.slice A1 k c1) xl → Il X (.slice A2 k c2) xl → Calls Try.prog 20 #[.agg #[.int .i64 w, .int .i64 h, .slice A1 k c1], .agg #[.int .i64 w, .int .i64 h, .slice A2 k c2]] X fun e Y => e = .returned (.bool true) ∧ Ext X Y := fun X A1 A2 c1 c2 h1 h2 => by
                have := HSA.out X A1 A2 c1 c2 xl xl h1 h2
                rwa [decide_eq_true (rfl : xl = xl)] at this
              have HSAT := Lib.hid hst; clear hst
              obtain ⟨y1, hy1, hdf⟩ := hprev.out hj0
              obtain ⟨j1, rfl⟩ : ∃ j1, j = j1 + 1 := ⟨j - 1, by omega⟩
              rw [Nat.add_sub_cancel] at hy1
              have hiy := (HIL.out y1 (List.mem_of_getElem? hy1)).below E9.out
              obtain ⟨p0, p1, p2⟩ := HCL9.out j1 y1 hy1
              have hsf : ∀ X (A1 A2 : Option Addr) (c1 c2 : Nat), Il X (.slice A1 k c1) xl → Il X (.slice A2 k c2) y1.l → Calls Try.prog 20 #[.agg #[.int .i64 w, .int .i64 h, .slice A1 k c1], .agg #[.int .i64 w, .int .i64 h, .slice A2 k c2]] X fun e Y => e = .returned (.bool false) ∧ Ext X Y := fun X A1 A2 c1 c2 h1 h2 => by
                have := HSA.out X A1 A2 c1 c2 xl y1.l h1 h2
                rwa [hdf] at this
              have HSAF := Lib.hid hsf; have HIY := Lib.hid hiy; have HP0 := Lib.hid p0; have HP1 := Lib.hid p1; have HP2 := Lib.hid p2; clear hsf hiy p0 p1 p2 hdf hy1
              have w1 : IntKind.i64.wrap (((j1 + 1 : Nat) : Int) - 1) = (j1 : Nat) := by rw [IntWalk.i64_in _ (by omega)]; omega
              have w2 : ((j1 + 1 : Nat) : Int) - 1 = (j1 : Nat) := by omega
              have w3 : IntKind.i64.wrap (j1 : Int) = (j1 : Nat) := IntWalk.i64_in _ (by omega)
              have hj1 : j1 < nd := by omega
              go_cut [109] (fun s wx => s = .bool false ∧ Ext wc wx)
              case first =>
                refine wp_region_noPanic ?_
                refine wp_pool 32 [some 78, some 79, some 80, some 81, some 82, some 83, some 84, some 85, some 86, some 87, some 88, some 89, some 90, some 91, some 92, some 93, some 94, some 95, some 96, some 97, some 98, some 99, some 100, some 101, some 102, some 103, some 104, some 105, some 106, some 107, some 108, some 109] [] [] [(fun (v : Value) (_ : World) => v = .int .i64 0), (fun (v : Value) (_ : World) => v = .bool false), (fun (v : Value) (_ : World) => v = .bool false), (fun (v : Value) (_ : World) => v = .slice (some ⟨gf, 0, none⟩) ne cap), (fun (v : Value) (_ : World) => v = .int .i64 ne), (fun (v : Value) (_ : World) => v = .bool false), (fun (v : Value) (_ : World) => v = .bool false), (fun (v : Value) (_ : World) => v = .bool false), (fun (v : Value) (_ : World) => v = .slice (some ⟨gf, 0, none⟩) ne cap), (fun (v : Value) (_ : World) => v = .pointer (some ⟨gf, 0, none⟩)), (fun (v : Value) (_ : World) => v = .agg #[.int .i64 w, .int .i64 h, .slice (some ⟨y0.b, 0, none⟩) k k]), (fun (v : Value) (_ : World) => v = .agg #[.int .i64 w, .int .i64 h, .slice (some ⟨y0.b, 0, none⟩) k k]), (fun (v : Value) (_ : World) => v = .agg #[.int .i64 w, .int .i64 h, .slice (some ⟨xb, 0, none⟩) k xc]), (fun (v : Value) (_ : World) => v = .agg #[.int .i64 w, .int .i64 h, .slice (some ⟨xb, 0, none⟩) k xc]), (fun (v : Value) (_ : World) => v = .bool true), (fun (v : Value) (_ : World) => v = .bool false), (fun (v : Value) (_ : World) => v = .bool false), (fun (v : Value) (_ : World) => v = .bool false), (fun (v : Value) (_ : World) => v = .int .i64 ((j1 + 1 : Nat) : Int)), (fun (v : Value) (_ : World) => v = .bool true), (fun (v : Value) (_ : World) => v = .bool true), (fun (v : Value) (_ : World) => v = .agg #[.int .i64 w, .int .i64 h, .slice (some ⟨xb, 0, none⟩) k xc]), (fun (v : Value) (_ : World) => v = .agg #[.int .i64 w, .int .i64 h, .slice (some ⟨xb, 0, none⟩) k xc]), (fun (v : Value) (_ : World) => v = .slice (some ⟨bl, 0, none⟩) nd cv), (fun (v : Value) (_ : World) => v = .int .i64 ((j1 + 1 : Nat) : Int)), (fun (v : Value) (_ : World) => v = .int .i64 (j1 : Nat)), (fun (v : Value) (_ : World) => v = .pointer (some ⟨bl, j1 * 3, none⟩)), (fun (v : Value) (_ : World) => v = .agg #[.int .i64 w, .int .i64 h, .slice (some ⟨y1.b, 0, none⟩) k y1.c]), (fun (v : Value) (_ : World) => v = .agg #[.int .i64 w, .int .i64 h, .slice (some ⟨y1.b, 0, none⟩) k y1.c]), (fun (v : Value) (_ : World) => v = .bool false), (fun (v : Value) (_ : World) => v = .bool false), (fun (v : Value) (_ : World) => v = .bool false)] [noF, noF, noF, noF, noF, noF, noF, noF, noF, noF, noF, noF, noF, noF, noF, noF, noF, noF, noF, noF, noF, noF, noF, noF, noF, noF, noF, noF, noF, noF, noF, noF] (by kernel_rfl) (by kernel_rfl) (by kernel_rfl) (by kernel_rfl) (by kernel_rfl) (by kernel_rfl) (by kernel_rfl) (by kernel_rfl) (fun _ _ _ _ h => h) ⟨Stays.pure _, Stays.pure _, Stays.pure _, Stays.pure _, Stays.pure _, Stays.pure _, Stays.pure _, Stays.pure _, Stays.pure _, Stays.pure _, Stays.pure _, Stays.pure _, Stays.pure _, Stays.pure _, Stays.pure _, Stays.pure _, Stays.pure _, Stays.pure _, Stays.pure _, Stays.pure _, Stays.pure _, Stays.pure _, Stays.pure _, Stays.pure _, Stays.pure _, Stays.pure _, Stays.pure _, Stays.pure _, Stays.pure _, Stays.pure _, Stays.pure _, Stays.pure _, True.intro⟩ ?steps ?done
                case steps =>
                  simp only [List.take_succ_cons, List.take_zero]
                  refine Steps.cons (fun (v : Value) (_ : World) => v = .int .i64 0) [] rfl (by kernel_rfl) rfl (by kernel_rfl) (fun y X ex0 hf K hK => ?_) ?_
                  · clear hf
                    have ex := (Ext.drw (Ext.refl _)).trans ex0
                    refine Box.mk ?_
                    simp only [fill, Act.put, Nat.reduceAdd, List.setIfInBounds_toArray, List.set_cons_zero, List.set_cons_succ] at hK ⊢
                    go_simp
                    exact hK.out _ _ rfl (Ext.refl _) (fun b hb => by cases hb)
                  refine Steps.cons (fun (v : Value) (_ : World) => v = .bool false) [0] rfl (by kernel_rfl) rfl (by kernel_rfl) (fun y X ex0 hf K hK => ?_) ?_
                  · have h0 : ((fun (v : Value) (_ : World) => v = .int .i64 0)) (y 0) X := hf.1
                    clear hf
                    have ex := (Ext.drw (Ext.refl _)).trans ex0
                    refine Box.mk ?_
                    simp only [fill, Act.put, Nat.reduceAdd, List.setIfInBounds_toArray, List.set_cons_zero, List.set_cons_succ, h0] at hK ⊢
                    go_simp
                    exact hK.out _ _ rfl (Ext.refl _) (fun b hb => by cases hb)
                  refine Steps.cons (fun (v : Value) (_ : World) => v = .bool false) [1] rfl (by kernel_rfl) rfl (by kernel_rfl) (fun y X ex0 hf K hK => ?_) ?_
                  · have h1 : ((fun (v : Value) (_ : World) => v = .bool false)) (y 1) X := hf.1
                    clear hf
                    have ex := (Ext.drw (Ext.refl _)).trans ex0
                    refine Box.mk ?_
                    simp only [fill, Act.put, Nat.reduceAdd, List.setIfInBounds_toArray, List.set_cons_zero, List.set_cons_succ, h1] at hK ⊢
                    go_simp
                    exact hK.out _ _ rfl (Ext.refl _) (fun b hb => by cases hb)
                  refine Steps.cons (fun (v : Value) (_ : World) => v = .slice (some ⟨gf, 0, none⟩) ne cap) [2] rfl (by kernel_rfl) rfl (by kernel_rfl) (fun y X ex0 hf K hK => ?_) ?_
                  · have h2 : ((fun (v : Value) (_ : World) => v = .bool false)) (y 2) X := hf.1
                    clear hf
                    have ex := (Ext.drw (Ext.refl _)).trans ex0
                    refine Box.mk ?_
                    simp only [fill, Act.put, Nat.reduceAdd, List.setIfInBounds_toArray, List.set_cons_zero, List.set_cons_succ, h2] at hK ⊢
                    go_simp
                    exact hK.out _ _ rfl (Ext.refl _) (fun b hb => by cases hb)
                  refine Steps.cons (fun (v : Value) (_ : World) => v = .int .i64 ne) [3, 2] rfl (by kernel_rfl) rfl (by kernel_rfl) (fun y X ex0 hf K hK => ?_) ?_
                  · have h3 : ((fun (v : Value) (_ : World) => v = .slice (some ⟨gf, 0, none⟩) ne cap)) (y 3) X := hf.1
                    have h2 : ((fun (v : Value) (_ : World) => v = .bool false)) (y 2) X := hf.2.1
                    clear hf
                    have ex := (Ext.drw (Ext.refl _)).trans ex0
                    refine Box.mk ?_
                    simp only [fill, Act.put, Nat.reduceAdd, List.setIfInBounds_toArray, List.set_cons_zero, List.set_cons_succ, h3, h2] at hK ⊢
                    go_simp
                    exact hK.out _ _ rfl (Ext.refl _) (fun b hb => by cases hb)
                  refine Steps.cons (fun (v : Value) (_ : World) => v = .bool false) [4, 2] rfl (by kernel_rfl) rfl (by kernel_rfl) (fun y X ex0 hf K hK => ?_) ?_
                  · have h4 : ((fun (v : Value) (_ : World) => v = .int .i64 ne)) (y 4) X := hf.1
                    have h2 : ((fun (v : Value) (_ : World) => v = .bool false)) (y 2) X := hf.2.1
                    clear hf
                    have ex := (Ext.drw (Ext.refl _)).trans ex0
                    refine Box.mk ?_
                    simp only [fill, Act.put, Nat.reduceAdd, List.setIfInBounds_toArray, List.set_cons_zero, List.set_cons_succ, h4, h2] at hK ⊢
                    go_simp
                    exact hK.out _ _ rfl (Ext.refl _) (fun b hb => by cases hb)
                  refine Steps.cons (fun (v : Value) (_ : World) => v = .bool false) [2, 5] rfl (by kernel_rfl) rfl (by kernel_rfl) (fun y X ex0 hf K hK => ?_) ?_
                  · have h2 : ((fun (v : Value) (_ : World) => v = .bool false)) (y 2) X := hf.1
                    have h5 : ((fun (v : Value) (_ : World) => v = .bool false)) (y 5) X := hf.2.1
                    clear hf
                    have ex := (Ext.drw (Ext.refl _)).trans ex0
                    refine Box.mk ?_
                    simp only [fill, Act.put, Nat.reduceAdd, List.setIfInBounds_toArray, List.set_cons_zero, List.set_cons_succ, h2, h5] at hK ⊢
                    go_simp
                    exact hK.out _ _ rfl (Ext.refl _) (fun b hb => by cases hb)
                  refine Steps.cons (fun (v : Value) (_ : World) => v = .bool false) [6, 2] rfl (by kernel_rfl) rfl (by kernel_rfl) (fun y X ex0 hf K hK => ?_) ?_
                  · have h6 : ((fun (v : Value) (_ : World) => v = .bool false)) (y 6) X := hf.1
                    have h2 : ((fun (v : Value) (_ : World) => v = .bool false)) (y 2) X := hf.2.1
                    clear hf
                    have ex := (Ext.drw (Ext.refl _)).trans ex0
                    refine Box.mk ?_
                    simp only [fill, Act.put, Nat.reduceAdd, List.setIfInBounds_toArray, List.set_cons_zero, List.set_cons_succ, h6, h2] at hK ⊢
                    go_simp
                    exact hK.out _ _ rfl (Ext.refl _) (fun b hb => by cases hb)
                  refine Steps.cons (fun (v : Value) (_ : World) => v = .slice (some ⟨gf, 0, none⟩) ne cap) [7] rfl (by kernel_rfl) rfl (by kernel_rfl) (fun y X ex0 hf K hK => ?_) ?_
                  · have h7 : ((fun (v : Value) (_ : World) => v = .bool false)) (y 7) X := hf.1
                    clear hf
                    have ex := (Ext.drw (Ext.refl _)).trans ex0
                    refine Box.mk ?_
                    simp only [fill, Act.put, Nat.reduceAdd, List.setIfInBounds_toArray, List.set_cons_zero, List.set_cons_succ, h7] at hK ⊢
                    go_simp
                    exact hK.out _ _ rfl (Ext.refl _) (fun b hb => by cases hb)
                  refine Steps.cons (fun (v : Value) (_ : World) => v = .pointer (some ⟨gf, 0, none⟩)) [8, 7] rfl (by kernel_rfl) rfl (by kernel_rfl) (fun y X ex0 hf K hK => ?_) ?_
                  · have h8 : ((fun (v : Value) (_ : World) => v = .slice (some ⟨gf, 0, none⟩) ne cap)) (y 8) X := hf.1
                    have h7 : ((fun (v : Value) (_ : World) => v = .bool false)) (y 7) X := hf.2.1
                    clear hf
                    have ex := (Ext.drw (Ext.refl _)).trans ex0
                    refine Box.mk ?_
                    simp only [fill, Act.put, Nat.reduceAdd, List.setIfInBounds_toArray, List.set_cons_zero, List.set_cons_succ, h8, h7] at hK ⊢
                    go_simp
                    exact hK.out _ _ rfl (Ext.refl _) (fun b hb => by cases hb)
                  refine Steps.cons (fun (v : Value) (_ : World) => v = .agg #[.int .i64 w, .int .i64 h, .slice (some ⟨y0.b, 0, none⟩) k k]) [9, 7] rfl (by kernel_rfl) rfl (by kernel_rfl) (fun y X ex0 hf K hK => ?_) ?_
                  · have h9 : ((fun (v : Value) (_ : World) => v = .pointer (some ⟨gf, 0, none⟩))) (y 9) X := hf.1
                    have h7 : ((fun (v : Value) (_ : World) => v = .bool false)) (y 7) X := hf.2.1
                    clear hf
                    have ex := (Ext.drw (Ext.refl _)).trans ex0
                    refine Box.mk ?_
                    simp only [fill, Act.put, Nat.reduceAdd, List.setIfInBounds_toArray, List.set_cons_zero, List.set_cons_succ, h9, h7] at hK ⊢
                    have t0 := keepAt ex hgf HV0.out
                    have t1 := keepAt ex hgf HV1.out
                    have t2 := keepAt ex hgf HV2.out
                    go_simp
                    exact hK.out _ _ rfl (Ext.refl _) (fun b hb => by cases hb)
                  refine Steps.cons (fun (v : Value) (_ : World) => v = .agg #[.int .i64 w, .int .i64 h, .slice (some ⟨y0.b, 0, none⟩) k k]) [10, 7] rfl (by kernel_rfl) rfl (by kernel_rfl) (fun y X ex0 hf K hK => ?_) ?_
                  · have h10 : ((fun (v : Value) (_ : World) => v = .agg #[.int .i64 w, .int .i64 h, .slice (some ⟨y0.b, 0, none⟩) k k])) (y 10) X := hf.1
                    have h7 : ((fun (v : Value) (_ : World) => v = .bool false)) (y 7) X := hf.2.1
                    clear hf
                    have ex := (Ext.drw (Ext.refl _)).trans ex0
                    refine Box.mk ?_
                    simp only [fill, Act.put, Nat.reduceAdd, List.setIfInBounds_toArray, List.set_cons_zero, List.set_cons_succ, h10, h7] at hK ⊢
                    go_simp
                    refine (own_any w h _ k k _).mono ?_
                    rintro e V ⟨rfl, hb⟩
                    try go_wp2_with fail
                    exact hK.out _ _ rfl hb (fun b hb => by cases hb)
                  refine Steps.cons (fun (v : Value) (_ : World) => v = .agg #[.int .i64 w, .int .i64 h, .slice (some ⟨xb, 0, none⟩) k xc]) [7] rfl (by kernel_rfl) rfl (by kernel_rfl) (fun y X ex0 hf K hK => ?_) ?_
                  · have h7 : ((fun (v : Value) (_ : World) => v = .bool false)) (y 7) X := hf.1
                    clear hf
                    have ex := (Ext.drw (Ext.refl _)).trans ex0
                    refine Box.mk ?_
                    simp only [fill, Act.put, Nat.reduceAdd, List.setIfInBounds_toArray, List.set_cons_zero, List.set_cons_succ, h7] at hK ⊢
                    obtain ⟨t0, t1, t2⟩ := HQ9.out.ext s9 ex
                    go_simp
                    exact hK.out _ _ rfl (Ext.refl _) (fun b hb => by cases hb)
                  refine Steps.cons (fun (v : Value) (_ : World) => v = .agg #[.int .i64 w, .int .i64 h, .slice (some ⟨xb, 0, none⟩) k xc]) [12, 11, 7] rfl (by kernel_rfl) rfl (by kernel_rfl) (fun y X ex0 hf K hK => ?_) ?_
                  · have h12 : ((fun (v : Value) (_ : World) => v = .agg #[.int .i64 w, .int .i64 h, .slice (some ⟨xb, 0, none⟩) k xc])) (y 12) X := hf.1
                    have h11 : ((fun (v : Value) (_ : World) => v = .agg #[.int .i64 w, .int .i64 h, .slice (some ⟨y0.b, 0, none⟩) k k])) (y 11) X := hf.2.1
                    have h7 : ((fun (v : Value) (_ : World) => v = .bool false)) (y 7) X := hf.2.2.1
                    clear hf
                    have ex := (Ext.drw (Ext.refl _)).trans ex0
                    refine Box.mk ?_
                    simp only [fill, Act.put, Nat.reduceAdd, List.setIfInBounds_toArray, List.set_cons_zero, List.set_cons_succ, h12, h11, h7] at hK ⊢
                    go_simp
                    refine (own_any w h _ k xc _).mono ?_
                    rintro e V ⟨rfl, hb⟩
                    try go_wp2_with fail
                    exact hK.out _ _ rfl hb (fun b hb => by cases hb)
                  refine Steps.cons (fun (v : Value) (_ : World) => v = .bool true) [11, 13, 7] rfl (by kernel_rfl) rfl (by kernel_rfl) (fun y X ex0 hf K hK => ?_) ?_
                  · have h11 : ((fun (v : Value) (_ : World) => v = .agg #[.int .i64 w, .int .i64 h, .slice (some ⟨y0.b, 0, none⟩) k k])) (y 11) X := hf.1
                    have h13 : ((fun (v : Value) (_ : World) => v = .agg #[.int .i64 w, .int .i64 h, .slice (some ⟨xb, 0, none⟩) k xc])) (y 13) X := hf.2.1
                    have h7 : ((fun (v : Value) (_ : World) => v = .bool false)) (y 7) X := hf.2.2.1
                    clear hf
                    have ex := (Ext.drw (Ext.refl _)).trans ex0
                    refine Box.mk ?_
                    simp only [fill, Act.put, Nat.reduceAdd, List.setIfInBounds_toArray, List.set_cons_zero, List.set_cons_succ, h11, h13, h7] at hK ⊢
                    go_simp
                    refine (HSAT.out _ _ _ _ _ (HAX.out.below ex) (HIX9.out.below ex)).mono ?_
                    rintro e V ⟨rfl, hb⟩
                    try go_wp2_with fail
                    exact hK.out _ _ rfl hb (fun b hb => by cases hb)
                  refine Steps.cons (fun (v : Value) (_ : World) => v = .bool false) [14, 7] rfl (by kernel_rfl) rfl (by kernel_rfl) (fun y X ex0 hf K hK => ?_) ?_
                  · have h14 : ((fun (v : Value) (_ : World) => v = .bool true)) (y 14) X := hf.1
                    have h7 : ((fun (v : Value) (_ : World) => v = .bool false)) (y 7) X := hf.2.1
                    clear hf
                    have ex := (Ext.drw (Ext.refl _)).trans ex0
                    refine Box.mk ?_
                    simp only [fill, Act.put, Nat.reduceAdd, List.setIfInBounds_toArray, List.set_cons_zero, List.set_cons_succ, h14, h7] at hK ⊢
                    go_simp
                    exact hK.out _ _ rfl (Ext.refl _) (fun b hb => by cases hb)
                  refine Steps.cons (fun (v : Value) (_ : World) => v = .bool false) [7, 15] rfl (by kernel_rfl) rfl (by kernel_rfl) (fun y X ex0 hf K hK => ?_) ?_
                  · have h7 : ((fun (v : Value) (_ : World) => v = .bool false)) (y 7) X := hf.1
                    have h15 : ((fun (v : Value) (_ : World) => v = .bool false)) (y 15) X := hf.2.1
                    clear hf
                    have ex := (Ext.drw (Ext.refl _)).trans ex0
                    refine Box.mk ?_
                    simp only [fill, Act.put, Nat.reduceAdd, List.setIfInBounds_toArray, List.set_cons_zero, List.set_cons_succ, h7, h15] at hK ⊢
                    go_simp
                    exact hK.out _ _ rfl (Ext.refl _) (fun b hb => by cases hb)
                  refine Steps.cons (fun (v : Value) (_ : World) => v = .bool false) [16, 14] rfl (by kernel_rfl) rfl (by kernel_rfl) (fun y X ex0 hf K hK => ?_) ?_
                  · have h16 : ((fun (v : Value) (_ : World) => v = .bool false)) (y 16) X := hf.1
                    have h14 : ((fun (v : Value) (_ : World) => v = .bool true)) (y 14) X := hf.2.1
                    clear hf
                    have ex := (Ext.drw (Ext.refl _)).trans ex0
                    refine Box.mk ?_
                    simp only [fill, Act.put, Nat.reduceAdd, List.setIfInBounds_toArray, List.set_cons_zero, List.set_cons_succ, h16, h14] at hK ⊢
                    go_simp
                    exact hK.out _ _ rfl (Ext.refl _) (fun b hb => by cases hb)
                  refine Steps.cons (fun (v : Value) (_ : World) => v = .int .i64 ((j1 + 1 : Nat) : Int)) [17] rfl (by kernel_rfl) rfl (by kernel_rfl) (fun y X ex0 hf K hK => ?_) ?_
                  · have h17 : ((fun (v : Value) (_ : World) => v = .bool false)) (y 17) X := hf.1
                    clear hf
                    have ex := (Ext.drw (Ext.refl _)).trans ex0
                    refine Box.mk ?_
                    simp only [fill, Act.put, Nat.reduceAdd, List.setIfInBounds_toArray, List.set_cons_zero, List.set_cons_succ, h17] at hK ⊢
                    go_simp
                    exact hK.out _ _ rfl (Ext.refl _) (fun b hb => by cases hb)
                  refine Steps.cons (fun (v : Value) (_ : World) => v = .bool true) [18, 17] rfl (by kernel_rfl) rfl (by kernel_rfl) (fun y X ex0 hf K hK => ?_) ?_
                  · have h18 : ((fun (v : Value) (_ : World) => v = .int .i64 ((j1 + 1 : Nat) : Int))) (y 18) X := hf.1
                    have h17 : ((fun (v : Value) (_ : World) => v = .bool false)) (y 17) X := hf.2.1
                    clear hf
                    have ex := (Ext.drw (Ext.refl _)).trans ex0
                    refine Box.mk ?_
                    simp only [fill, Act.put, Nat.reduceAdd, List.setIfInBounds_toArray, List.set_cons_zero, List.set_cons_succ, h18, h17] at hK ⊢
                    go_simp
                    exact hK.out _ _ rfl (Ext.refl _) (fun b hb => by cases hb)
                  refine Steps.cons (fun (v : Value) (_ : World) => v = .bool true) [19, 17] rfl (by kernel_rfl) rfl (by kernel_rfl) (fun y X ex0 hf K hK => ?_) ?_
                  · have h19 : ((fun (v : Value) (_ : World) => v = .bool true)) (y 19) X := hf.1
                    have h17 : ((fun (v : Value) (_ : World) => v = .bool false)) (y 17) X := hf.2.1
                    clear hf
                    have ex := (Ext.drw (Ext.refl _)).trans ex0
                    refine Box.mk ?_
                    simp only [fill, Act.put, Nat.reduceAdd, List.setIfInBounds_toArray, List.set_cons_zero, List.set_cons_succ, h19, h17] at hK ⊢
                    go_simp
                    exact hK.out _ _ rfl (Ext.refl _) (fun b hb => by cases hb)
                  refine Steps.cons (fun (v : Value) (_ : World) => v = .agg #[.int .i64 w, .int .i64 h, .slice (some ⟨xb, 0, none⟩) k xc]) [20] rfl (by kernel_rfl) rfl (by kernel_rfl) (fun y X ex0 hf K hK => ?_) ?_
                  · have h20 : ((fun (v : Value) (_ : World) => v = .bool true)) (y 20) X := hf.1
                    clear hf
                    have ex := (Ext.drw (Ext.refl _)).trans ex0
                    refine Box.mk ?_
                    simp only [fill, Act.put, Nat.reduceAdd, List.setIfInBounds_toArray, List.set_cons_zero, List.set_cons_succ, h20] at hK ⊢
                    obtain ⟨t0, t1, t2⟩ := HQ9.out.ext s9 ex
                    go_simp
                    exact hK.out _ _ rfl (Ext.refl _) (fun b hb => by cases hb)
                  refine Steps.cons (fun (v : Value) (_ : World) => v = .agg #[.int .i64 w, .int .i64 h, .slice (some ⟨xb, 0, none⟩) k xc]) [21, 20] rfl (by kernel_rfl) rfl (by kernel_rfl) (fun y X ex0 hf K hK => ?_) ?_
                  · have h21 : ((fun (v : Value) (_ : World) => v = .agg #[.int .i64 w, .int .i64 h, .slice (some ⟨xb, 0, none⟩) k xc])) (y 21) X := hf.1
                    have h20 : ((fun (v : Value) (_ : World) => v = .bool true)) (y 20) X := hf.2.1
                    clear hf
                    have ex := (Ext.drw (Ext.refl _)).trans ex0
                    refine Box.mk ?_
                    simp only [fill, Act.put, Nat.reduceAdd, List.setIfInBounds_toArray, List.set_cons_zero, List.set_cons_succ, h21, h20] at hK ⊢
                    go_simp
                    refine (own_any w h _ k xc _).mono ?_
                    rintro e V ⟨rfl, hb⟩
                    try go_wp2_with fail
                    exact hK.out _ _ rfl hb (fun b hb => by cases hb)
                  refine Steps.cons (fun (v : Value) (_ : World) => v = .slice (some ⟨bl, 0, none⟩) nd cv) [20] rfl (by kernel_rfl) rfl (by kernel_rfl) (fun y X ex0 hf K hK => ?_) ?_
                  · have h20 : ((fun (v : Value) (_ : World) => v = .bool true)) (y 20) X := hf.1
                    clear hf
                    have ex := (Ext.drw (Ext.refl _)).trans ex0
                    refine Box.mk ?_
                    simp only [fill, Act.put, Nat.reduceAdd, List.setIfInBounds_toArray, List.set_cons_zero, List.set_cons_succ, h20] at hK ⊢
                    go_simp
                    exact hK.out _ _ rfl (Ext.refl _) (fun b hb => by cases hb)
                  refine Steps.cons (fun (v : Value) (_ : World) => v = .int .i64 ((j1 + 1 : Nat) : Int)) [20] rfl (by kernel_rfl) rfl (by kernel_rfl) (fun y X ex0 hf K hK => ?_) ?_
                  · have h20 : ((fun (v : Value) (_ : World) => v = .bool true)) (y 20) X := hf.1
                    clear hf
                    have ex := (Ext.drw (Ext.refl _)).trans ex0
                    refine Box.mk ?_
                    simp only [fill, Act.put, Nat.reduceAdd, List.setIfInBounds_toArray, List.set_cons_zero, List.set_cons_succ, h20] at hK ⊢
                    go_simp
                    exact hK.out _ _ rfl (Ext.refl _) (fun b hb => by cases hb)
                  refine Steps.cons (fun (v : Value) (_ : World) => v = .int .i64 (j1 : Nat)) [24, 20] rfl (by kernel_rfl) rfl (by kernel_rfl) (fun y X ex0 hf K hK => ?_) ?_
                  · have h24 : ((fun (v : Value) (_ : World) => v = .int .i64 ((j1 + 1 : Nat) : Int))) (y 24) X := hf.1
                    have h20 : ((fun (v : Value) (_ : World) => v = .bool true)) (y 20) X := hf.2.1
                    clear hf
                    have ex := (Ext.drw (Ext.refl _)).trans ex0
                    refine Box.mk ?_
                    simp only [fill, Act.put, Nat.reduceAdd, List.setIfInBounds_toArray, List.set_cons_zero, List.set_cons_succ, h24, h20] at hK ⊢
                    go_simp
                    exact hK.out _ _ rfl (Ext.refl _) (fun b hb => by cases hb)
                  refine Steps.cons (fun (v : Value) (_ : World) => v = .pointer (some ⟨bl, j1 * 3, none⟩)) [23, 25, 20] rfl (by kernel_rfl) rfl (by kernel_rfl) (fun y X ex0 hf K hK => ?_) ?_
                  · have h23 : ((fun (v : Value) (_ : World) => v = .slice (some ⟨bl, 0, none⟩) nd cv)) (y 23) X := hf.1
                    have h25 : ((fun (v : Value) (_ : World) => v = .int .i64 (j1 : Nat))) (y 25) X := hf.2.1
                    have h20 : ((fun (v : Value) (_ : World) => v = .bool true)) (y 20) X := hf.2.2.1
                    clear hf
                    have ex := (Ext.drw (Ext.refl _)).trans ex0
                    refine Box.mk ?_
                    simp only [fill, Act.put, Nat.reduceAdd, List.setIfInBounds_toArray, List.set_cons_zero, List.set_cons_succ, h23, h25, h20] at hK ⊢
                    go_simp
                    exact hK.out _ _ rfl (Ext.refl _) (fun b hb => by cases hb)
                  refine Steps.cons (fun (v : Value) (_ : World) => v = .agg #[.int .i64 w, .int .i64 h, .slice (some ⟨y1.b, 0, none⟩) k y1.c]) [26, 20] rfl (by kernel_rfl) rfl (by kernel_rfl) (fun y X ex0 hf K hK => ?_) ?_
                  · have h26 : ((fun (v : Value) (_ : World) => v = .pointer (some ⟨bl, j1 * 3, none⟩))) (y 26) X := hf.1
                    have h20 : ((fun (v : Value) (_ : World) => v = .bool true)) (y 20) X := hf.2.1
                    clear hf
                    have ex := (Ext.drw (Ext.refl _)).trans ex0
                    refine Box.mk ?_
                    simp only [fill, Act.put, Nat.reduceAdd, List.setIfInBounds_toArray, List.set_cons_zero, List.set_cons_succ, h26, h20] at hK ⊢
                    have t0 := keepAt ex lbl9 HP0.out
                    have t1 := keepAt ex lbl9 HP1.out
                    have t2 := keepAt ex lbl9 HP2.out
                    go_simp
                    exact hK.out _ _ rfl (Ext.refl _) (fun b hb => by cases hb)
                  refine Steps.cons (fun (v : Value) (_ : World) => v = .agg #[.int .i64 w, .int .i64 h, .slice (some ⟨y1.b, 0, none⟩) k y1.c]) [27, 22, 20] rfl (by kernel_rfl) rfl (by kernel_rfl) (fun y X ex0 hf K hK => ?_) ?_
                  · have h27 : ((fun (v : Value) (_ : World) => v = .agg #[.int .i64 w, .int .i64 h, .slice (some ⟨y1.b, 0, none⟩) k y1.c])) (y 27) X := hf.1
                    have h22 : ((fun (v : Value) (_ : World) => v = .agg #[.int .i64 w, .int .i64 h, .slice (some ⟨xb, 0, none⟩) k xc])) (y 22) X := hf.2.1
                    have h20 : ((fun (v : Value) (_ : World) => v = .bool true)) (y 20) X := hf.2.2.1
                    clear hf
                    have ex := (Ext.drw (Ext.refl _)).trans ex0
                    refine Box.mk ?_
                    simp only [fill, Act.put, Nat.reduceAdd, List.setIfInBounds_toArray, List.set_cons_zero, List.set_cons_succ, h27, h22, h20] at hK ⊢
                    go_simp
                    refine (own_any w h _ k _ _).mono ?_
                    rintro e V ⟨rfl, hb⟩
                    try go_wp2_with fail
                    exact hK.out _ _ rfl hb (fun b hb => by cases hb)
                  refine Steps.cons (fun (v : Value) (_ : World) => v = .bool false) [22, 28, 20] rfl (by kernel_rfl) rfl (by kernel_rfl) (fun y X ex0 hf K hK => ?_) ?_
                  · have h22 : ((fun (v : Value) (_ : World) => v = .agg #[.int .i64 w, .int .i64 h, .slice (some ⟨xb, 0, none⟩) k xc])) (y 22) X := hf.1
                    have h28 : ((fun (v : Value) (_ : World) => v = .agg #[.int .i64 w, .int .i64 h, .slice (some ⟨y1.b, 0, none⟩) k y1.c])) (y 28) X := hf.2.1
                    have h20 : ((fun (v : Value) (_ : World) => v = .bool true)) (y 20) X := hf.2.2.1
                    clear hf
                    have ex := (Ext.drw (Ext.refl _)).trans ex0
                    refine Box.mk ?_
                    simp only [fill, Act.put, Nat.reduceAdd, List.setIfInBounds_toArray, List.set_cons_zero, List.set_cons_succ, h22, h28, h20] at hK ⊢
                    go_simp
                    refine (HSAF.out _ _ _ _ _ (HIX9.out.below ex) (HIY.out.below ex)).mono ?_
                    rintro e V ⟨rfl, hb⟩
                    try go_wp2_with fail
                    exact hK.out _ _ rfl hb (fun b hb => by cases hb)
                  refine Steps.cons (fun (v : Value) (_ : World) => v = .bool false) [20, 29, 17] rfl (by kernel_rfl) rfl (by kernel_rfl) (fun y X ex0 hf K hK => ?_) ?_
                  · have h20 : ((fun (v : Value) (_ : World) => v = .bool true)) (y 20) X := hf.1
                    have h29 : ((fun (v : Value) (_ : World) => v = .bool false)) (y 29) X := hf.2.1
                    have h17 : ((fun (v : Value) (_ : World) => v = .bool false)) (y 17) X := hf.2.2.1
                    clear hf
                    have ex := (Ext.drw (Ext.refl _)).trans ex0
                    refine Box.mk ?_
                    simp only [fill, Act.put, Nat.reduceAdd, List.setIfInBounds_toArray, List.set_cons_zero, List.set_cons_succ, h20, h29, h17] at hK ⊢
                    go_simp
                    exact hK.out _ _ rfl (Ext.refl _) (fun b hb => by cases hb)
                  refine Steps.cons (fun (v : Value) (_ : World) => v = .bool false) [17, 30] rfl (by kernel_rfl) rfl (by kernel_rfl) (fun y X ex0 hf K hK => ?_) ?_
                  · have h17 : ((fun (v : Value) (_ : World) => v = .bool false)) (y 17) X := hf.1
                    have h30 : ((fun (v : Value) (_ : World) => v = .bool false)) (y 30) X := hf.2.1
                    clear hf
                    have ex := (Ext.drw (Ext.refl _)).trans ex0
                    refine Box.mk ?_
                    simp only [fill, Act.put, Nat.reduceAdd, List.setIfInBounds_toArray, List.set_cons_zero, List.set_cons_succ, h17, h30] at hK ⊢
                    go_simp
                    exact hK.out _ _ rfl (Ext.refl _) (fun b hb => by cases hb)
                  exact Steps.nil
                case done =>
                  intro y X ex hf hlt hsep
                  have h0 : ((fun (v : Value) (_ : World) => v = .int .i64 0)) (y 0) X := hf.1
                  have h1 : ((fun (v : Value) (_ : World) => v = .bool false)) (y 1) X := hf.2.1
                  have h2 : ((fun (v : Value) (_ : World) => v = .bool false)) (y 2) X := hf.2.2.1
                  have h3 : ((fun (v : Value) (_ : World) => v = .slice (some ⟨gf, 0, none⟩) ne cap)) (y 3) X := hf.2.2.2.1
                  have h4 : ((fun (v : Value) (_ : World) => v = .int .i64 ne)) (y 4) X := hf.2.2.2.2.1
                  have h5 : ((fun (v : Value) (_ : World) => v = .bool false)) (y 5) X := hf.2.2.2.2.2.1
                  have h6 : ((fun (v : Value) (_ : World) => v = .bool false)) (y 6) X := hf.2.2.2.2.2.2.1
                  have h7 : ((fun (v : Value) (_ : World) => v = .bool false)) (y 7) X := hf.2.2.2.2.2.2.2.1
                  have h8 : ((fun (v : Value) (_ : World) => v = .slice (some ⟨gf, 0, none⟩) ne cap)) (y 8) X := hf.2.2.2.2.2.2.2.2.1
                  have h9 : ((fun (v : Value) (_ : World) => v = .pointer (some ⟨gf, 0, none⟩))) (y 9) X := hf.2.2.2.2.2.2.2.2.2.1
                  have h10 : ((fun (v : Value) (_ : World) => v = .agg #[.int .i64 w, .int .i64 h, .slice (some ⟨y0.b, 0, none⟩) k k])) (y 10) X := hf.2.2.2.2.2.2.2.2.2.2.1
                  have h11 : ((fun (v : Value) (_ : World) => v = .agg #[.int .i64 w, .int .i64 h, .slice (some ⟨y0.b, 0, none⟩) k k])) (y 11) X := hf.2.2.2.2.2.2.2.2.2.2.2.1
                  have h12 : ((fun (v : Value) (_ : World) => v = .agg #[.int .i64 w, .int .i64 h, .slice (some ⟨xb, 0, none⟩) k xc])) (y 12) X := hf.2.2.2.2.2.2.2.2.2.2.2.2.1
                  have h13 : ((fun (v : Value) (_ : World) => v = .agg #[.int .i64 w, .int .i64 h, .slice (some ⟨xb, 0, none⟩) k xc])) (y 13) X := hf.2.2.2.2.2.2.2.2.2.2.2.2.2.1
                  have h14 : ((fun (v : Value) (_ : World) => v = .bool true)) (y 14) X := hf.2.2.2.2.2.2.2.2.2.2.2.2.2.2.1
                  have h15 : ((fun (v : Value) (_ : World) => v = .bool false)) (y 15) X := hf.2.2.2.2.2.2.2.2.2.2.2.2.2.2.2.1
                  have h16 : ((fun (v : Value) (_ : World) => v = .bool false)) (y 16) X := hf.2.2.2.2.2.2.2.2.2.2.2.2.2.2.2.2.1
                  have h17 : ((fun (v : Value) (_ : World) => v = .bool false)) (y 17) X := hf.2.2.2.2.2.2.2.2.2.2.2.2.2.2.2.2.2.1
                  have h18 : ((fun (v : Value) (_ : World) => v = .int .i64 ((j1 + 1 : Nat) : Int))) (y 18) X := hf.2.2.2.2.2.2.2.2.2.2.2.2.2.2.2.2.2.2.1
                  have h19 : ((fun (v : Value) (_ : World) => v = .bool true)) (y 19) X := hf.2.2.2.2.2.2.2.2.2.2.2.2.2.2.2.2.2.2.2.1
                  have h20 : ((fun (v : Value) (_ : World) => v = .bool true)) (y 20) X := hf.2.2.2.2.2.2.2.2.2.2.2.2.2.2.2.2.2.2.2.2.1
                  have h21 : ((fun (v : Value) (_ : World) => v = .agg #[.int .i64 w, .int .i64 h, .slice (some ⟨xb, 0, none⟩) k xc])) (y 21) X := hf.2.2.2.2.2.2.2.2.2.2.2.2.2.2.2.2.2.2.2.2.2.1
                  have h22 : ((fun (v : Value) (_ : World) => v = .agg #[.int .i64 w, .int .i64 h, .slice (some ⟨xb, 0, none⟩) k xc])) (y 22) X := hf.2.2.2.2.2.2.2.2.2.2.2.2.2.2.2.2.2.2.2.2.2.2.1
                  have h23 : ((fun (v : Value) (_ : World) => v = .slice (some ⟨bl, 0, none⟩) nd cv)) (y 23) X := hf.2.2.2.2.2.2.2.2.2.2.2.2.2.2.2.2.2.2.2.2.2.2.2.1
                  have h24 : ((fun (v : Value) (_ : World) => v = .int .i64 ((j1 + 1 : Nat) : Int))) (y 24) X := hf.2.2.2.2.2.2.2.2.2.2.2.2.2.2.2.2.2.2.2.2.2.2.2.2.1
                  have h25 : ((fun (v : Value) (_ : World) => v = .int .i64 (j1 : Nat))) (y 25) X := hf.2.2.2.2.2.2.2.2.2.2.2.2.2.2.2.2.2.2.2.2.2.2.2.2.2.1
                  have h26 : ((fun (v : Value) (_ : World) => v = .pointer (some ⟨bl, j1 * 3, none⟩))) (y 26) X := hf.2.2.2.2.2.2.2.2.2.2.2.2.2.2.2.2.2.2.2.2.2.2.2.2.2.2.1
                  have h27 : ((fun (v : Value) (_ : World) => v = .agg #[.int .i64 w, .int .i64 h, .slice (some ⟨y1.b, 0, none⟩) k y1.c])) (y 27) X := hf.2.2.2.2.2.2.2.2.2.2.2.2.2.2.2.2.2.2.2.2.2.2.2.2.2.2.2.1
                  have h28 : ((fun (v : Value) (_ : World) => v = .agg #[.int .i64 w, .int .i64 h, .slice (some ⟨y1.b, 0, none⟩) k y1.c])) (y 28) X := hf.2.2.2.2.2.2.2.2.2.2.2.2.2.2.2.2.2.2.2.2.2.2.2.2.2.2.2.2.1
                  have h29 : ((fun (v : Value) (_ : World) => v = .bool false)) (y 29) X := hf.2.2.2.2.2.2.2.2.2.2.2.2.2.2.2.2.2.2.2.2.2.2.2.2.2.2.2.2.2.1
                  have h30 : ((fun (v : Value) (_ : World) => v = .bool false)) (y 30) X := hf.2.2.2.2.2.2.2.2.2.2.2.2.2.2.2.2.2.2.2.2.2.2.2.2.2.2.2.2.2.2.1
                  have h31 : ((fun (v : Value) (_ : World) => v = .bool false)) (y 31) X := hf.2.2.2.2.2.2.2.2.2.2.2.2.2.2.2.2.2.2.2.2.2.2.2.2.2.2.2.2.2.2.2.1
                  clear hf
                  clear hsep hlt
                  refine Box.mk ?_
                  simp only [List.drop_succ_cons, List.drop_zero, fill, Act.put, Nat.reduceAdd, List.setIfInBounds_toArray, List.set_cons_zero, List.set_cons_succ, h0, h1, h2, h3, h4, h5, h6, h7, h8, h9, h10, h11, h12, h13, h14, h15, h16, h17, h18, h19, h20, h21, h22, h23, h24, h25, h26, h27, h28, h29, h30, h31]
                  clear h0 h1 h2 h3 h4 h5 h6 h7 h8 h9 h10 h11 h12 h13 h14 h15 h16 h17 h18 h19 h20 h21 h22 h23 h24 h25 h26 h27 h28 h29 h30 h31
                  have EX := Lib.hid ex; clear ex
                  go_wp2_with fail
                  refine NoPanic.normal ?_
                  go_wp2_with fail
                  go_meet
                  exact ⟨rfl, EX.out⟩
              case rest =>
                obtain ⟨rfl, ex⟩ := hcut
                have F3 := Lib.hid (E9.out.trans ex); clear ex
                clear w1 w2 w3 hji
                go_wp2_with fail
                go_roundw
                case rel => exact ⟨_ + 1, z + ne, by go_num, by omega, by go_num, by omega, HNXT, F3.out⟩
                case measure => simp [intOf]; omega
            · obtain rfl : j = 0 := by omega
              have hst : ∀ X (A1 A2 : Option Addr) (c1 c2 : Nat), Il X (.slice A1 k c1) xl → Il X (.slice A2 k c2) xl → Calls Try.prog 20 #[.agg #[.int .i64 w, .int .i64 h, .slice A1 k c1], .agg #[.int .i64 w, .int .i64 h, .slice A2 k c2]] X fun e Y => e = .returned (.bool true) ∧ Ext X Y := fun X A1 A2 c1 c2 h1 h2 => by
                have := HSA.out X A1 A2 c1 c2 xl xl h1 h2
                rwa [decide_eq_true (rfl : xl = xl)] at this
              have HSAT := Lib.hid hst; clear hst
              go_cut [109] (fun s wx => s = .bool false ∧ Ext wc wx)
              case first =>
                refine wp_region_noPanic ?_
                refine wp_pool 32 [some 78, some 79, some 80, some 81, some 82, some 83, some 84, some 85, some 86, some 87, some 88, some 89, some 90, some 91, some 92, some 93, some 94, some 95, some 96, some 97, some 98, some 99, some 100, some 101, some 102, some 103, some 104, some 105, some 106, some 107, some 108, some 109] [] [] [(fun (v : Value) (_ : World) => v = .int .i64 0), (fun (v : Value) (_ : World) => v = .bool false), (fun (v : Value) (_ : World) => v = .bool false), (fun (v : Value) (_ : World) => v = .slice (some ⟨gf, 0, none⟩) ne cap), (fun (v : Value) (_ : World) => v = .int .i64 ne), (fun (v : Value) (_ : World) => v = .bool false), (fun (v : Value) (_ : World) => v = .bool false), (fun (v : Value) (_ : World) => v = .bool false), (fun (v : Value) (_ : World) => v = .slice (some ⟨gf, 0, none⟩) ne cap), (fun (v : Value) (_ : World) => v = .pointer (some ⟨gf, 0, none⟩)), (fun (v : Value) (_ : World) => v = .agg #[.int .i64 w, .int .i64 h, .slice (some ⟨y0.b, 0, none⟩) k k]), (fun (v : Value) (_ : World) => v = .agg #[.int .i64 w, .int .i64 h, .slice (some ⟨y0.b, 0, none⟩) k k]), (fun (v : Value) (_ : World) => v = .agg #[.int .i64 w, .int .i64 h, .slice (some ⟨xb, 0, none⟩) k xc]), (fun (v : Value) (_ : World) => v = .agg #[.int .i64 w, .int .i64 h, .slice (some ⟨xb, 0, none⟩) k xc]), (fun (v : Value) (_ : World) => v = .bool true), (fun (v : Value) (_ : World) => v = .bool false), (fun (v : Value) (_ : World) => v = .bool false), (fun (v : Value) (_ : World) => v = .bool false), (fun (v : Value) (_ : World) => v = .int .i64 ((0 : Nat) : Int)), (fun (v : Value) (_ : World) => v = .bool false), (fun (v : Value) (_ : World) => v = .bool false), (fun (v : Value) (_ : World) => v = undef), (fun (v : Value) (_ : World) => v = undef), (fun (v : Value) (_ : World) => v = undef), (fun (v : Value) (_ : World) => v = undef), (fun (v : Value) (_ : World) => v = undef), (fun (v : Value) (_ : World) => v = undef), (fun (v : Value) (_ : World) => v = undef), (fun (v : Value) (_ : World) => v = undef), (fun (v : Value) (_ : World) => v = undef), (fun (v : Value) (_ : World) => v = .bool false), (fun (v : Value) (_ : World) => v = .bool false)] [noF, noF, noF, noF, noF, noF, noF, noF, noF, noF, noF, noF, noF, noF, noF, noF, noF, noF, noF, noF, noF, noF, noF, noF, noF, noF, noF, noF, noF, noF, noF, noF] (by kernel_rfl) (by kernel_rfl) (by kernel_rfl) (by kernel_rfl) (by kernel_rfl) (by kernel_rfl) (by kernel_rfl) (by kernel_rfl) (fun _ _ _ _ h => h) ⟨Stays.pure _, Stays.pure _, Stays.pure _, Stays.pure _, Stays.pure _, Stays.pure _, Stays.pure _, Stays.pure _, Stays.pure _, Stays.pure _, Stays.pure _, Stays.pure _, Stays.pure _, Stays.pure _, Stays.pure _, Stays.pure _, Stays.pure _, Stays.pure _, Stays.pure _, Stays.pure _, Stays.pure _, Stays.pure _, Stays.pure _, Stays.pure _, Stays.pure _, Stays.pure _, Stays.pure _, Stays.pure _, Stays.pure _, Stays.pure _, Stays.pure _, Stays.pure _, True.intro⟩ ?steps ?done
                case steps =>
                  simp only [List.take_succ_cons, List.take_zero]
                  refine Steps.cons (fun (v : Value) (_ : World) => v = .int .i64 0) [] rfl (by kernel_rfl) rfl (by kernel_rfl) (fun y X ex0 hf K hK => ?_) ?_
                  · clear hf
                    have ex := (Ext.drw (Ext.refl _)).trans ex0
                    refine Box.mk ?_
                    simp only [fill, Act.put, Nat.reduceAdd, List.setIfInBounds_toArray, List.set_cons_zero, List.set_cons_succ] at hK ⊢
                    go_simp
                    exact hK.out _ _ rfl (Ext.refl _) (fun b hb => by cases hb)
                  refine Steps.cons (fun (v : Value) (_ : World) => v = .bool false) [0] rfl (by kernel_rfl) rfl (by kernel_rfl) (fun y X ex0 hf K hK => ?_) ?_
                  · have h0 : ((fun (v : Value) (_ : World) => v = .int .i64 0)) (y 0) X := hf.1
                    clear hf
                    have ex := (Ext.drw (Ext.refl _)).trans ex0
                    refine Box.mk ?_
                    simp only [fill, Act.put, Nat.reduceAdd, List.setIfInBounds_toArray, List.set_cons_zero, List.set_cons_succ, h0] at hK ⊢
                    go_simp
                    exact hK.out _ _ rfl (Ext.refl _) (fun b hb => by cases hb)
                  refine Steps.cons (fun (v : Value) (_ : World) => v = .bool false) [1] rfl (by kernel_rfl) rfl (by kernel_rfl) (fun y X ex0 hf K hK => ?_) ?_
                  · have h1 : ((fun (v : Value) (_ : World) => v = .bool false)) (y 1) X := hf.1
                    clear hf
                    have ex := (Ext.drw (Ext.refl _)).trans ex0
                    refine Box.mk ?_
                    simp only [fill, Act.put, Nat.reduceAdd, List.setIfInBounds_toArray, List.set_cons_zero, List.set_cons_succ, h1] at hK ⊢
                    go_simp
                    exact hK.out _ _ rfl (Ext.refl _) (fun b hb => by cases hb)
                  refine Steps.cons (fun (v : Value) (_ : World) => v = .slice (some ⟨gf, 0, none⟩) ne cap) [2] rfl (by kernel_rfl) rfl (by kernel_rfl) (fun y X ex0 hf K hK => ?_) ?_
                  · have h2 : ((fun (v : Value) (_ : World) => v = .bool false)) (y 2) X := hf.1
                    clear hf
                    have ex := (Ext.drw (Ext.refl _)).trans ex0
                    refine Box.mk ?_
                    simp only [fill, Act.put, Nat.reduceAdd, List.setIfInBounds_toArray, List.set_cons_zero, List.set_cons_succ, h2] at hK ⊢
                    go_simp
                    exact hK.out _ _ rfl (Ext.refl _) (fun b hb => by cases hb)
                  refine Steps.cons (fun (v : Value) (_ : World) => v = .int .i64 ne) [3, 2] rfl (by kernel_rfl) rfl (by kernel_rfl) (fun y X ex0 hf K hK => ?_) ?_
                  · have h3 : ((fun (v : Value) (_ : World) => v = .slice (some ⟨gf, 0, none⟩) ne cap)) (y 3) X := hf.1
                    have h2 : ((fun (v : Value) (_ : World) => v = .bool false)) (y 2) X := hf.2.1
                    clear hf
                    have ex := (Ext.drw (Ext.refl _)).trans ex0
                    refine Box.mk ?_
                    simp only [fill, Act.put, Nat.reduceAdd, List.setIfInBounds_toArray, List.set_cons_zero, List.set_cons_succ, h3, h2] at hK ⊢
                    go_simp
                    exact hK.out _ _ rfl (Ext.refl _) (fun b hb => by cases hb)
                  refine Steps.cons (fun (v : Value) (_ : World) => v = .bool false) [4, 2] rfl (by kernel_rfl) rfl (by kernel_rfl) (fun y X ex0 hf K hK => ?_) ?_
                  · have h4 : ((fun (v : Value) (_ : World) => v = .int .i64 ne)) (y 4) X := hf.1
                    have h2 : ((fun (v : Value) (_ : World) => v = .bool false)) (y 2) X := hf.2.1
                    clear hf
                    have ex := (Ext.drw (Ext.refl _)).trans ex0
                    refine Box.mk ?_
                    simp only [fill, Act.put, Nat.reduceAdd, List.setIfInBounds_toArray, List.set_cons_zero, List.set_cons_succ, h4, h2] at hK ⊢
                    go_simp
                    exact hK.out _ _ rfl (Ext.refl _) (fun b hb => by cases hb)
                  refine Steps.cons (fun (v : Value) (_ : World) => v = .bool false) [2, 5] rfl (by kernel_rfl) rfl (by kernel_rfl) (fun y X ex0 hf K hK => ?_) ?_
                  · have h2 : ((fun (v : Value) (_ : World) => v = .bool false)) (y 2) X := hf.1
                    have h5 : ((fun (v : Value) (_ : World) => v = .bool false)) (y 5) X := hf.2.1
                    clear hf
                    have ex := (Ext.drw (Ext.refl _)).trans ex0
                    refine Box.mk ?_
                    simp only [fill, Act.put, Nat.reduceAdd, List.setIfInBounds_toArray, List.set_cons_zero, List.set_cons_succ, h2, h5] at hK ⊢
                    go_simp
                    exact hK.out _ _ rfl (Ext.refl _) (fun b hb => by cases hb)
                  refine Steps.cons (fun (v : Value) (_ : World) => v = .bool false) [6, 2] rfl (by kernel_rfl) rfl (by kernel_rfl) (fun y X ex0 hf K hK => ?_) ?_
                  · have h6 : ((fun (v : Value) (_ : World) => v = .bool false)) (y 6) X := hf.1
                    have h2 : ((fun (v : Value) (_ : World) => v = .bool false)) (y 2) X := hf.2.1
                    clear hf
                    have ex := (Ext.drw (Ext.refl _)).trans ex0
                    refine Box.mk ?_
                    simp only [fill, Act.put, Nat.reduceAdd, List.setIfInBounds_toArray, List.set_cons_zero, List.set_cons_succ, h6, h2] at hK ⊢
                    go_simp
                    exact hK.out _ _ rfl (Ext.refl _) (fun b hb => by cases hb)
                  refine Steps.cons (fun (v : Value) (_ : World) => v = .slice (some ⟨gf, 0, none⟩) ne cap) [7] rfl (by kernel_rfl) rfl (by kernel_rfl) (fun y X ex0 hf K hK => ?_) ?_
                  · have h7 : ((fun (v : Value) (_ : World) => v = .bool false)) (y 7) X := hf.1
                    clear hf
                    have ex := (Ext.drw (Ext.refl _)).trans ex0
                    refine Box.mk ?_
                    simp only [fill, Act.put, Nat.reduceAdd, List.setIfInBounds_toArray, List.set_cons_zero, List.set_cons_succ, h7] at hK ⊢
                    go_simp
                    exact hK.out _ _ rfl (Ext.refl _) (fun b hb => by cases hb)
                  refine Steps.cons (fun (v : Value) (_ : World) => v = .pointer (some ⟨gf, 0, none⟩)) [8, 7] rfl (by kernel_rfl) rfl (by kernel_rfl) (fun y X ex0 hf K hK => ?_) ?_
                  · have h8 : ((fun (v : Value) (_ : World) => v = .slice (some ⟨gf, 0, none⟩) ne cap)) (y 8) X := hf.1
                    have h7 : ((fun (v : Value) (_ : World) => v = .bool false)) (y 7) X := hf.2.1
                    clear hf
                    have ex := (Ext.drw (Ext.refl _)).trans ex0
                    refine Box.mk ?_
                    simp only [fill, Act.put, Nat.reduceAdd, List.setIfInBounds_toArray, List.set_cons_zero, List.set_cons_succ, h8, h7] at hK ⊢
                    go_simp
                    exact hK.out _ _ rfl (Ext.refl _) (fun b hb => by cases hb)
                  refine Steps.cons (fun (v : Value) (_ : World) => v = .agg #[.int .i64 w, .int .i64 h, .slice (some ⟨y0.b, 0, none⟩) k k]) [9, 7] rfl (by kernel_rfl) rfl (by kernel_rfl) (fun y X ex0 hf K hK => ?_) ?_
                  · have h9 : ((fun (v : Value) (_ : World) => v = .pointer (some ⟨gf, 0, none⟩))) (y 9) X := hf.1
                    have h7 : ((fun (v : Value) (_ : World) => v = .bool false)) (y 7) X := hf.2.1
                    clear hf
                    have ex := (Ext.drw (Ext.refl _)).trans ex0
                    refine Box.mk ?_
                    simp only [fill, Act.put, Nat.reduceAdd, List.setIfInBounds_toArray, List.set_cons_zero, List.set_cons_succ, h9, h7] at hK ⊢
                    have t0 := keepAt ex hgf HV0.out
                    have t1 := keepAt ex hgf HV1.out
                    have t2 := keepAt ex hgf HV2.out
                    go_simp
                    exact hK.out _ _ rfl (Ext.refl _) (fun b hb => by cases hb)
                  refine Steps.cons (fun (v : Value) (_ : World) => v = .agg #[.int .i64 w, .int .i64 h, .slice (some ⟨y0.b, 0, none⟩) k k]) [10, 7] rfl (by kernel_rfl) rfl (by kernel_rfl) (fun y X ex0 hf K hK => ?_) ?_
                  · have h10 : ((fun (v : Value) (_ : World) => v = .agg #[.int .i64 w, .int .i64 h, .slice (some ⟨y0.b, 0, none⟩) k k])) (y 10) X := hf.1
                    have h7 : ((fun (v : Value) (_ : World) => v = .bool false)) (y 7) X := hf.2.1
                    clear hf
                    have ex := (Ext.drw (Ext.refl _)).trans ex0
                    refine Box.mk ?_
                    simp only [fill, Act.put, Nat.reduceAdd, List.setIfInBounds_toArray, List.set_cons_zero, List.set_cons_succ, h10, h7] at hK ⊢
                    go_simp
                    refine (own_any w h _ k k _).mono ?_
                    rintro e V ⟨rfl, hb⟩
                    try go_wp2_with fail
                    exact hK.out _ _ rfl hb (fun b hb => by cases hb)
                  refine Steps.cons (fun (v : Value) (_ : World) => v = .agg #[.int .i64 w, .int .i64 h, .slice (some ⟨xb, 0, none⟩) k xc]) [7] rfl (by kernel_rfl) rfl (by kernel_rfl) (fun y X ex0 hf K hK => ?_) ?_
                  · have h7 : ((fun (v : Value) (_ : World) => v = .bool false)) (y 7) X := hf.1
                    clear hf
                    have ex := (Ext.drw (Ext.refl _)).trans ex0
                    refine Box.mk ?_
                    simp only [fill, Act.put, Nat.reduceAdd, List.setIfInBounds_toArray, List.set_cons_zero, List.set_cons_succ, h7] at hK ⊢
                    obtain ⟨t0, t1, t2⟩ := HQ9.out.ext s9 ex
                    go_simp
                    exact hK.out _ _ rfl (Ext.refl _) (fun b hb => by cases hb)
                  refine Steps.cons (fun (v : Value) (_ : World) => v = .agg #[.int .i64 w, .int .i64 h, .slice (some ⟨xb, 0, none⟩) k xc]) [12, 11, 7] rfl (by kernel_rfl) rfl (by kernel_rfl) (fun y X ex0 hf K hK => ?_) ?_
                  · have h12 : ((fun (v : Value) (_ : World) => v = .agg #[.int .i64 w, .int .i64 h, .slice (some ⟨xb, 0, none⟩) k xc])) (y 12) X := hf.1
                    have h11 : ((fun (v : Value) (_ : World) => v = .agg #[.int .i64 w, .int .i64 h, .slice (some ⟨y0.b, 0, none⟩) k k])) (y 11) X := hf.2.1
                    have h7 : ((fun (v : Value) (_ : World) => v = .bool false)) (y 7) X := hf.2.2.1
                    clear hf
                    have ex := (Ext.drw (Ext.refl _)).trans ex0
                    refine Box.mk ?_
                    simp only [fill, Act.put, Nat.reduceAdd, List.setIfInBounds_toArray, List.set_cons_zero, List.set_cons_succ, h12, h11, h7] at hK ⊢
                    go_simp
                    refine (own_any w h _ k xc _).mono ?_
                    rintro e V ⟨rfl, hb⟩
                    try go_wp2_with fail
                    exact hK.out _ _ rfl hb (fun b hb => by cases hb)
                  refine Steps.cons (fun (v : Value) (_ : World) => v = .bool true) [11, 13, 7] rfl (by kernel_rfl) rfl (by kernel_rfl) (fun y X ex0 hf K hK => ?_) ?_
                  · have h11 : ((fun (v : Value) (_ : World) => v = .agg #[.int .i64 w, .int .i64 h, .slice (some ⟨y0.b, 0, none⟩) k k])) (y 11) X := hf.1
                    have h13 : ((fun (v : Value) (_ : World) => v = .agg #[.int .i64 w, .int .i64 h, .slice (some ⟨xb, 0, none⟩) k xc])) (y 13) X := hf.2.1
                    have h7 : ((fun (v : Value) (_ : World) => v = .bool false)) (y 7) X := hf.2.2.1
                    clear hf
                    have ex := (Ext.drw (Ext.refl _)).trans ex0
                    refine Box.mk ?_
                    simp only [fill, Act.put, Nat.reduceAdd, List.setIfInBounds_toArray, List.set_cons_zero, List.set_cons_succ, h11, h13, h7] at hK ⊢
                    go_simp
                    refine (HSAT.out _ _ _ _ _ (HAX.out.below ex) (HIX9.out.below ex)).mono ?_
                    rintro e V ⟨rfl, hb⟩
                    try go_wp2_with fail
                    exact hK.out _ _ rfl hb (fun b hb => by cases hb)
                  refine Steps.cons (fun (v : Value) (_ : World) => v = .bool false) [14, 7] rfl (by kernel_rfl) rfl (by kernel_rfl) (fun y X ex0 hf K hK => ?_) ?_
                  · have h14 : ((fun (v : Value) (_ : World) => v = .bool true)) (y 14) X := hf.1
                    have h7 : ((fun (v : Value) (_ : World) => v = .bool false)) (y 7) X := hf.2.1
                    clear hf
                    have ex := (Ext.drw (Ext.refl _)).trans ex0
                    refine Box.mk ?_
                    simp only [fill, Act.put, Nat.reduceAdd, List.setIfInBounds_toArray, List.set_cons_zero, List.set_cons_succ, h14, h7] at hK ⊢
                    go_simp
                    exact hK.out _ _ rfl (Ext.refl _) (fun b hb => by cases hb)
                  refine Steps.cons (fun (v : Value) (_ : World) => v = .bool false) [7, 15] rfl (by kernel_rfl) rfl (by kernel_rfl) (fun y X ex0 hf K hK => ?_) ?_
                  · have h7 : ((fun (v : Value) (_ : World) => v = .bool false)) (y 7) X := hf.1
                    have h15 : ((fun (v : Value) (_ : World) => v = .bool false)) (y 15) X := hf.2.1
                    clear hf
                    have ex := (Ext.drw (Ext.refl _)).trans ex0
                    refine Box.mk ?_
                    simp only [fill, Act.put, Nat.reduceAdd, List.setIfInBounds_toArray, List.set_cons_zero, List.set_cons_succ, h7, h15] at hK ⊢
                    go_simp
                    exact hK.out _ _ rfl (Ext.refl _) (fun b hb => by cases hb)
                  refine Steps.cons (fun (v : Value) (_ : World) => v = .bool false) [16, 14] rfl (by kernel_rfl) rfl (by kernel_rfl) (fun y X ex0 hf K hK => ?_) ?_
                  · have h16 : ((fun (v : Value) (_ : World) => v = .bool false)) (y 16) X := hf.1
                    have h14 : ((fun (v : Value) (_ : World) => v = .bool true)) (y 14) X := hf.2.1
                    clear hf
                    have ex := (Ext.drw (Ext.refl _)).trans ex0
                    refine Box.mk ?_
                    simp only [fill, Act.put, Nat.reduceAdd, List.setIfInBounds_toArray, List.set_cons_zero, List.set_cons_succ, h16, h14] at hK ⊢
                    go_simp
                    exact hK.out _ _ rfl (Ext.refl _) (fun b hb => by cases hb)
                  refine Steps.cons (fun (v : Value) (_ : World) => v = .int .i64 ((0 : Nat) : Int)) [17] rfl (by kernel_rfl) rfl (by kernel_rfl) (fun y X ex0 hf K hK => ?_) ?_
                  · have h17 : ((fun (v : Value) (_ : World) => v = .bool false)) (y 17) X := hf.1
                    clear hf
                    have ex := (Ext.drw (Ext.refl _)).trans ex0
                    refine Box.mk ?_
                    simp only [fill, Act.put, Nat.reduceAdd, List.setIfInBounds_toArray, List.set_cons_zero, List.set_cons_succ, h17] at hK ⊢
                    go_simp
                    exact hK.out _ _ rfl (Ext.refl _) (fun b hb => by cases hb)
                  refine Steps.cons (fun (v : Value) (_ : World) => v = .bool false) [18, 17] rfl (by kernel_rfl) rfl (by kernel_rfl) (fun y X ex0 hf K hK => ?_) ?_
                  · have h18 : ((fun (v : Value) (_ : World) => v = .int .i64 ((0 : Nat) : Int))) (y 18) X := hf.1
                    have h17 : ((fun (v : Value) (_ : World) => v = .bool false)) (y 17) X := hf.2.1
                    clear hf
                    have ex := (Ext.drw (Ext.refl _)).trans ex0
                    refine Box.mk ?_
                    simp only [fill, Act.put, Nat.reduceAdd, List.setIfInBounds_toArray, List.set_cons_zero, List.set_cons_succ, h18, h17] at hK ⊢
                    go_simp
                    exact hK.out _ _ rfl (Ext.refl _) (fun b hb => by cases hb)
                  refine Steps.cons (fun (v : Value) (_ : World) => v = .bool false) [19, 17] rfl (by kernel_rfl) rfl (by kernel_rfl) (fun y X ex0 hf K hK => ?_) ?_
                  · have h19 : ((fun (v : Value) (_ : World) => v = .bool false)) (y 19) X := hf.1
                    have h17 : ((fun (v : Value) (_ : World) => v = .bool false)) (y 17) X := hf.2.1
                    clear hf
                    have ex := (Ext.drw (Ext.refl _)).trans ex0
                    refine Box.mk ?_
                    simp only [fill, Act.put, Nat.reduceAdd, List.setIfInBounds_toArray, List.set_cons_zero, List.set_cons_succ, h19, h17] at hK ⊢
                    go_simp
                    exact hK.out _ _ rfl (Ext.refl _) (fun b hb => by cases hb)
                  refine Steps.cons (fun (v : Value) (_ : World) => v = undef) [20] rfl (by kernel_rfl) rfl (by kernel_rfl) (fun y X ex0 hf K hK => ?_) ?_
                  · have h20 : ((fun (v : Value) (_ : World) => v = .bool false)) (y 20) X := hf.1
                    clear hf
                    have ex := (Ext.drw (Ext.refl _)).trans ex0
                    refine Box.mk ?_
                    simp only [fill, Act.put, Nat.reduceAdd, List.setIfInBounds_toArray, List.set_cons_zero, List.set_cons_succ, h20] at hK ⊢
                    go_simp
                    exact hK.out _ _ rfl (Ext.refl _) (fun b hb => by cases hb)
                  refine Steps.cons (fun (v : Value) (_ : World) => v = undef) [21, 20] rfl (by kernel_rfl) rfl (by kernel_rfl) (fun y X ex0 hf K hK => ?_) ?_
                  · have h21 : ((fun (v : Value) (_ : World) => v = undef)) (y 21) X := hf.1
                    have h20 : ((fun (v : Value) (_ : World) => v = .bool false)) (y 20) X := hf.2.1
                    clear hf
                    have ex := (Ext.drw (Ext.refl _)).trans ex0
                    refine Box.mk ?_
                    simp only [fill, Act.put, Nat.reduceAdd, List.setIfInBounds_toArray, List.set_cons_zero, List.set_cons_succ, h21, h20] at hK ⊢
                    go_simp
                    exact hK.out _ _ rfl (Ext.refl _) (fun b hb => by cases hb)
                  refine Steps.cons (fun (v : Value) (_ : World) => v = undef) [20] rfl (by kernel_rfl) rfl (by kernel_rfl) (fun y X ex0 hf K hK => ?_) ?_
                  · have h20 : ((fun (v : Value) (_ : World) => v = .bool false)) (y 20) X := hf.1
                    clear hf
                    have ex := (Ext.drw (Ext.refl _)).trans ex0
                    refine Box.mk ?_
                    simp only [fill, Act.put, Nat.reduceAdd, List.setIfInBounds_toArray, List.set_cons_zero, List.set_cons_succ, h20] at hK ⊢
                    go_simp
                    exact hK.out _ _ rfl (Ext.refl _) (fun b hb => by cases hb)
                  refine Steps.cons (fun (v : Value) (_ : World) => v = undef) [20] rfl (by kernel_rfl) rfl (by kernel_rfl) (fun y X ex0 hf K hK => ?_) ?_
                  · have h20 : ((fun (v : Value) (_ : World) => v = .bool false)) (y 20) X := hf.1
                    clear hf
                    have ex := (Ext.drw (Ext.refl _)).trans ex0
                    refine Box.mk ?_
                    simp only [fill, Act.put, Nat.reduceAdd, List.setIfInBounds_toArray, List.set_cons_zero, List.set_cons_succ, h20] at hK ⊢
                    go_simp
                    exact hK.out _ _ rfl (Ext.refl _) (fun b hb => by cases hb)
                  refine Steps.cons (fun (v : Value) (_ : World) => v = undef) [24, 20] rfl (by kernel_rfl) rfl (by kernel_rfl) (fun y X ex0 hf K hK => ?_) ?_
                  · have h24 : ((fun (v : Value) (_ : World) => v = undef)) (y 24) X := hf.1
                    have h20 : ((fun (v : Value) (_ : World) => v = .bool false)) (y 20) X := hf.2.1
                    clear hf
                    have ex := (Ext.drw (Ext.refl _)).trans ex0
                    refine Box.mk ?_
                    simp only [fill, Act.put, Nat.reduceAdd, List.setIfInBounds_toArray, List.set_cons_zero, List.set_cons_succ, h24, h20] at hK ⊢
                    go_simp
                    exact hK.out _ _ rfl (Ext.refl _) (fun b hb => by cases hb)
                  refine Steps.cons (fun (v : Value) (_ : World) => v = undef) [23, 25, 20] rfl (by kernel_rfl) rfl (by kernel_rfl) (fun y X ex0 hf K hK => ?_) ?_
                  · have h23 : ((fun (v : Value) (_ : World) => v = undef)) (y 23) X := hf.1
                    have h25 : ((fun (v : Value) (_ : World) => v = undef)) (y 25) X := hf.2.1
                    have h20 : ((fun (v : Value) (_ : World) => v = .bool false)) (y 20) X := hf.2.2.1
                    clear hf
                    have ex := (Ext.drw (Ext.refl _)).trans ex0
                    refine Box.mk ?_
                    simp only [fill, Act.put, Nat.reduceAdd, List.setIfInBounds_toArray, List.set_cons_zero, List.set_cons_succ, h23, h25, h20] at hK ⊢
                    go_simp
                    exact hK.out _ _ rfl (Ext.refl _) (fun b hb => by cases hb)
                  refine Steps.cons (fun (v : Value) (_ : World) => v = undef) [26, 20] rfl (by kernel_rfl) rfl (by kernel_rfl) (fun y X ex0 hf K hK => ?_) ?_
                  · have h26 : ((fun (v : Value) (_ : World) => v = undef)) (y 26) X := hf.1
                    have h20 : ((fun (v : Value) (_ : World) => v = .bool false)) (y 20) X := hf.2.1
                    clear hf
                    have ex := (Ext.drw (Ext.refl _)).trans ex0
                    refine Box.mk ?_
                    simp only [fill, Act.put, Nat.reduceAdd, List.setIfInBounds_toArray, List.set_cons_zero, List.set_cons_succ, h26, h20] at hK ⊢
                    go_simp
                    exact hK.out _ _ rfl (Ext.refl _) (fun b hb => by cases hb)
                  refine Steps.cons (fun (v : Value) (_ : World) => v = undef) [27, 22, 20] rfl (by kernel_rfl) rfl (by kernel_rfl) (fun y X ex0 hf K hK => ?_) ?_
                  · have h27 : ((fun (v : Value) (_ : World) => v = undef)) (y 27) X := hf.1
                    have h22 : ((fun (v : Value) (_ : World) => v = undef)) (y 22) X := hf.2.1
                    have h20 : ((fun (v : Value) (_ : World) => v = .bool false)) (y 20) X := hf.2.2.1
                    clear hf
                    have ex := (Ext.drw (Ext.refl _)).trans ex0
                    refine Box.mk ?_
                    simp only [fill, Act.put, Nat.reduceAdd, List.setIfInBounds_toArray, List.set_cons_zero, List.set_cons_succ, h27, h22, h20] at hK ⊢
                    go_simp
                    exact hK.out _ _ rfl (Ext.refl _) (fun b hb => by cases hb)
                  refine Steps.cons (fun (v : Value) (_ : World) => v = undef) [22, 28, 20] rfl (by kernel_rfl) rfl (by kernel_rfl) (fun y X ex0 hf K hK => ?_) ?_
                  · have h22 : ((fun (v : Value) (_ : World) => v = undef)) (y 22) X := hf.1
                    have h28 : ((fun (v : Value) (_ : World) => v = undef)) (y 28) X := hf.2.1
                    have h20 : ((fun (v : Value) (_ : World) => v = .bool false)) (y 20) X := hf.2.2.1
                    clear hf
                    have ex := (Ext.drw (Ext.refl _)).trans ex0
                    refine Box.mk ?_
                    simp only [fill, Act.put, Nat.reduceAdd, List.setIfInBounds_toArray, List.set_cons_zero, List.set_cons_succ, h22, h28, h20] at hK ⊢
                    go_simp
                    exact hK.out _ _ rfl (Ext.refl _) (fun b hb => by cases hb)
                  refine Steps.cons (fun (v : Value) (_ : World) => v = .bool false) [20, 29, 17] rfl (by kernel_rfl) rfl (by kernel_rfl) (fun y X ex0 hf K hK => ?_) ?_
                  · have h20 : ((fun (v : Value) (_ : World) => v = .bool false)) (y 20) X := hf.1
                    have h29 : ((fun (v : Value) (_ : World) => v = undef)) (y 29) X := hf.2.1
                    have h17 : ((fun (v : Value) (_ : World) => v = .bool false)) (y 17) X := hf.2.2.1
                    clear hf
                    have ex := (Ext.drw (Ext.refl _)).trans ex0
                    refine Box.mk ?_
                    simp only [fill, Act.put, Nat.reduceAdd, List.setIfInBounds_toArray, List.set_cons_zero, List.set_cons_succ, h20, h29, h17] at hK ⊢
                    go_simp
                    exact hK.out _ _ rfl (Ext.refl _) (fun b hb => by cases hb)
                  refine Steps.cons (fun (v : Value) (_ : World) => v = .bool false) [17, 30] rfl (by kernel_rfl) rfl (by kernel_rfl) (fun y X ex0 hf K hK => ?_) ?_
                  · have h17 : ((fun (v : Value) (_ : World) => v = .bool false)) (y 17) X := hf.1
                    have h30 : ((fun (v : Value) (_ : World) => v = .bool false)) (y 30) X := hf.2.1
                    clear hf
                    have ex := (Ext.drw (Ext.refl _)).trans ex0
                    refine Box.mk ?_
                    simp only [fill, Act.put, Nat.reduceAdd, List.setIfInBounds_toArray, List.set_cons_zero, List.set_cons_succ, h17, h30] at hK ⊢
                    go_simp
                    exact hK.out _ _ rfl (Ext.refl _) (fun b hb => by cases hb)
                  exact Steps.nil
                case done =>
                  intro y X ex hf hlt hsep
                  have h0 : ((fun (v : Value) (_ : World) => v = .int .i64 0)) (y 0) X := hf.1
                  have h1 : ((fun (v : Value) (_ : World) => v = .bool false)) (y 1) X := hf.2.1
                  have h2 : ((fun (v : Value) (_ : World) => v = .bool false)) (y 2) X := hf.2.2.1
                  have h3 : ((fun (v : Value) (_ : World) => v = .slice (some ⟨gf, 0, none⟩) ne cap)) (y 3) X := hf.2.2.2.1
                  have h4 : ((fun (v : Value) (_ : World) => v = .int .i64 ne)) (y 4) X := hf.2.2.2.2.1
                  have h5 : ((fun (v : Value) (_ : World) => v = .bool false)) (y 5) X := hf.2.2.2.2.2.1
                  have h6 : ((fun (v : Value) (_ : World) => v = .bool false)) (y 6) X := hf.2.2.2.2.2.2.1
                  have h7 : ((fun (v : Value) (_ : World) => v = .bool false)) (y 7) X := hf.2.2.2.2.2.2.2.1
                  have h8 : ((fun (v : Value) (_ : World) => v = .slice (some ⟨gf, 0, none⟩) ne cap)) (y 8) X := hf.2.2.2.2.2.2.2.2.1
                  have h9 : ((fun (v : Value) (_ : World) => v = .pointer (some ⟨gf, 0, none⟩))) (y 9) X := hf.2.2.2.2.2.2.2.2.2.1
                  have h10 : ((fun (v : Value) (_ : World) => v = .agg #[.int .i64 w, .int .i64 h, .slice (some ⟨y0.b, 0, none⟩) k k])) (y 10) X := hf.2.2.2.2.2.2.2.2.2.2.1
                  have h11 : ((fun (v : Value) (_ : World) => v = .agg #[.int .i64 w, .int .i64 h, .slice (some ⟨y0.b, 0, none⟩) k k])) (y 11) X := hf.2.2.2.2.2.2.2.2.2.2.2.1
                  have h12 : ((fun (v : Value) (_ : World) => v = .agg #[.int .i64 w, .int .i64 h, .slice (some ⟨xb, 0, none⟩) k xc])) (y 12) X := hf.2.2.2.2.2.2.2.2.2.2.2.2.1
                  have h13 : ((fun (v : Value) (_ : World) => v = .agg #[.int .i64 w, .int .i64 h, .slice (some ⟨xb, 0, none⟩) k xc])) (y 13) X := hf.2.2.2.2.2.2.2.2.2.2.2.2.2.1
                  have h14 : ((fun (v : Value) (_ : World) => v = .bool true)) (y 14) X := hf.2.2.2.2.2.2.2.2.2.2.2.2.2.2.1
                  have h15 : ((fun (v : Value) (_ : World) => v = .bool false)) (y 15) X := hf.2.2.2.2.2.2.2.2.2.2.2.2.2.2.2.1
                  have h16 : ((fun (v : Value) (_ : World) => v = .bool false)) (y 16) X := hf.2.2.2.2.2.2.2.2.2.2.2.2.2.2.2.2.1
                  have h17 : ((fun (v : Value) (_ : World) => v = .bool false)) (y 17) X := hf.2.2.2.2.2.2.2.2.2.2.2.2.2.2.2.2.2.1
                  have h18 : ((fun (v : Value) (_ : World) => v = .int .i64 ((0 : Nat) : Int))) (y 18) X := hf.2.2.2.2.2.2.2.2.2.2.2.2.2.2.2.2.2.2.1
                  have h19 : ((fun (v : Value) (_ : World) => v = .bool false)) (y 19) X := hf.2.2.2.2.2.2.2.2.2.2.2.2.2.2.2.2.2.2.2.1
                  have h20 : ((fun (v : Value) (_ : World) => v = .bool false)) (y 20) X := hf.2.2.2.2.2.2.2.2.2.2.2.2.2.2.2.2.2.2.2.2.1
                  have h21 : ((fun (v : Value) (_ : World) => v = undef)) (y 21) X := hf.2.2.2.2.2.2.2.2.2.2.2.2.2.2.2.2.2.2.2.2.2.1
                  have h22 : ((fun (v : Value) (_ : World) => v = undef)) (y 22) X := hf.2.2.2.2.2.2.2.2.2.2.2.2.2.2.2.2.2.2.2.2.2.2.1
                  have h23 : ((fun (v : Value) (_ : World) => v = undef)) (y 23) X := hf.2.2.2.2.2.2.2.2.2.2.2.2.2.2.2.2.2.2.2.2.2.2.2.1
                  have h24 : ((fun (v : Value) (_ : World) => v = undef)) (y 24) X := hf.2.2.2.2.2.2.2.2.2.2.2.2.2.2.2.2.2.2.2.2.2.2.2.2.1
                  have h25 : ((fun (v : Value) (_ : World) => v = undef)) (y 25) X := hf.2.2.2.2.2.2.2.2.2.2.2.2.2.2.2.2.2.2.2.2.2.2.2.2.2.1
                  have h26 : ((fun (v : Value) (_ : World) => v = undef)) (y 26) X := hf.2.2.2.2.2.2.2.2.2.2.2.2.2.2.2.2.2.2.2.2.2.2.2.2.2.2.1
                  have h27 : ((fun (v : Value) (_ : World) => v = undef)) (y 27) X := hf.2.2.2.2.2.2.2.2.2.2.2.2.2.2.2.2.2.2.2.2.2.2.2.2.2.2.2.1
                  have h28 : ((fun (v : Value) (_ : World) => v = undef)) (y 28) X := hf.2.2.2.2.2.2.2.2.2.2.2.2.2.2.2.2.2.2.2.2.2.2.2.2.2.2.2.2.1
                  have h29 : ((fun (v : Value) (_ : World) => v = undef)) (y 29) X := hf.2.2.2.2.2.2.2.2.2.2.2.2.2.2.2.2.2.2.2.2.2.2.2.2.2.2.2.2.2.1
                  have h30 : ((fun (v : Value) (_ : World) => v = .bool false)) (y 30) X := hf.2.2.2.2.2.2.2.2.2.2.2.2.2.2.2.2.2.2.2.2.2.2.2.2.2.2.2.2.2.2.1
                  have h31 : ((fun (v : Value) (_ : World) => v = .bool false)) (y 31) X := hf.2.2.2.2.2.2.2.2.2.2.2.2.2.2.2.2.2.2.2.2.2.2.2.2.2.2.2.2.2.2.2.1
                  clear hf
                  clear hsep hlt
                  refine Box.mk ?_
                  simp only [List.drop_succ_cons, List.drop_zero, fill, Act.put, Nat.reduceAdd, List.setIfInBounds_toArray, List.set_cons_zero, List.set_cons_succ, h0, h1, h2, h3, h4, h5, h6, h7, h8, h9, h10, h11, h12, h13, h14, h15, h16, h17, h18, h19, h20, h21, h22, h23, h24, h25, h26, h27, h28, h29, h30, h31]
                  clear h0 h1 h2 h3 h4 h5 h6 h7 h8 h9 h10 h11 h12 h13 h14 h15 h16 h17 h18 h19 h20 h21 h22 h23 h24 h25 h26 h27 h28 h29 h30 h31
                  have EX := Lib.hid ex; clear ex
                  go_wp2_with fail
                  refine NoPanic.normal ?_
                  go_wp2_with fail
                  go_meet
                  exact ⟨rfl, EX.out⟩
              case rest =>
                obtain ⟨rfl, ex⟩ := hcut
                have F3 := Lib.hid (E9.out.trans ex); clear ex
                go_wp2_with fail
                go_roundw
                case rel => exact ⟨_ + 1, z + ne, by go_num, by omega, by go_num, by omega, HNXT, F3.out⟩
                case measure => simp [intOf]; omega
        · obtain rfl : j = nd := by omega
          have hzx : z = x := by rw [hsz.out, HFL.out, List.take_of_length_le (Nat.le_refl _), HSUM.out]; exact hp.out.symm
          subst hzx
          have EB := Lib.hid (E2.out.trans ER.out)
          have geq : ((z : Int) == (z : Int)) = true := by simp
          have geqn : (z == z) = true := by simp
          go_wp2_with fail
          refine (awake_any _).mono ?_
          rintro e w9 ⟨rfl, hb⟩
          have EF := Lib.hid (EB.out.trans hb); clear hb
          go_wp2
          go_ret
          exact ⟨rfl, EF.out⟩

/-- the law -/
theorem all_any (w0 h0 c0 : Int) (A0 : Option Addr) (n0 k0 : Nat) (G0 : List Mv) (W : World) (hg : Ml W (.slice A0 n0 k0) G0) :
    Calls Try.prog 10 #[.int .i64 w0, .int .i64 h0, .int .i64 c0, .slice A0 n0 k0] W fun e W' => e = .returned (.bool true) ∧ Ext W W' := by
  obtain ⟨w, hw, hw1, hw3⟩ := small w0 3 (by omega) (by omega)
  obtain ⟨h, hh, hh1, hh2⟩ := small h0 2 (by omega) (by omega)
  obtain ⟨c, hc, hc1, hc3⟩ := small c0 3 (by omega) (by omega)
  cases hgr : grpB w h G0
  · exact allL_no w0 h0 c0 w h c A0 n0 k0 G0 W hw hh hc (by omega) (by omega) (by omega) hg hgr
  · exact allL_ok w0 h0 c0 w h c A0 n0 k0 G0 W hw hh hc (by omega) (by omega) (by omega) hg (grpB_iff.1 hgr)
end Go.Proofs.Ytgjanbgehbpciaa
