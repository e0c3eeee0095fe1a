/- Walks: orbit. -/
import Derived.Test.YtgjanbgehbpciaaF5
import Derived.Test.YtgjanbgehbpciaaD3
namespace Go.Proofs.Ytgjanbgehbpciaa
open Go.RowKit

theorem kp_all {ds : List Sd} (hs : ds.Pairwise (fun a b => ltL b.l a.l = false)) : ∀ p, p ≤ ds.length → (kp ds p).Pairwise (fun a b => ltL a.l b.l = true) ∧ (∀ i x, i < p → ds[i]? = some x → ∃ y ∈ kp ds p, y.l = x.l) ∧ ∀ y ∈ kp ds p, ∃ i, i < p ∧ ds[i]? = some y := by
  have hs' : ∀ (i j : Nat) (x y : Sd), i < j → ds[i]? = some x → ds[j]? = some y → ltL y.l x.l = false := fun i j x y hij hx hy => by
    obtain ⟨hi, rfl⟩ := List.getElem?_eq_some_iff.1 hx
    obtain ⟨hj, rfl⟩ := List.getElem?_eq_some_iff.1 hy
    exact List.pairwise_iff_getElem.1 hs i j hi hj hij
  intro p
  induction p with
  | zero => exact fun _ => ⟨List.Pairwise.nil, fun i x hi => by omega, fun y hy => by cases hy⟩
  | succ p ih =>
    intro hp
    obtain ⟨h1, h2, h3⟩ := ih (by omega)
    obtain ⟨x, hx⟩ : ∃ x, ds[p]? = some x := ⟨ds[p]'(by omega), List.getElem?_eq_getElem _⟩
    have hgx : ds.getD p default = x := by rw [List.getD_eq_getElem?_getD, hx]; rfl
    cases hb : kpB ds p with
    | true =>
      rw [kp_yes hb, hgx]
      refine ⟨?_, ?_, ?_⟩
      · rw [List.pairwise_append]
        refine ⟨h1, List.pairwise_singleton _ _, fun y hy z hz => ?_⟩
        rw [List.mem_singleton] at hz; subst hz
        obtain ⟨i, hi, hyi⟩ := h3 y hy
        have a1 := hs' i p y z hi hyi hx
        cases hlt : ltL y.l z.l with
        | true => rfl
        | false =>
          have e := ltL_eq hlt a1
          obtain ⟨q, rfl⟩ : ∃ q, p = q + 1 := ⟨p - 1, by omega⟩
          obtain ⟨u, hu⟩ : ∃ u, ds[q]? = some u := ⟨ds[q]'(by omega), List.getElem?_eq_getElem _⟩
          have hzu : z.l = u.l := by
            rcases Nat.lt_or_ge i q with hiq | hiq
            · have b1 := hs' i q y u hiq hyi hu
              have b2 := hs' q (q + 1) u z (by omega) hu hx
              rw [e] at b1
              exact ltL_eq b2 b1
            · obtain rfl : i = q := by omega
              rw [hyi] at hu; injection hu with hu; rw [← hu, e]
          rw [kpB_f hx hu hzu] at hb
          cases hb
      · intro i y hi hy
        rcases Nat.lt_or_ge i p with hip | hip
        · obtain ⟨z, hz, he⟩ := h2 i y hip hy
          exact ⟨z, by simp [hz], he⟩
        · obtain rfl : i = p := by omega
          rw [hx] at hy; injection hy with hy
          exact ⟨x, by simp, by rw [hy]⟩
      · intro y hy
        rcases List.mem_append.1 hy with h4 | h4
        · obtain ⟨i, hi, hyi⟩ := h3 y h4; exact ⟨i, by omega, hyi⟩
        · rw [List.mem_singleton] at h4; subst h4; exact ⟨p, by omega, hx⟩
    | false =>
      rw [kp_no hb]
      refine ⟨h1, ?_, fun y hy => by obtain ⟨i, hi, hyi⟩ := h3 y hy; exact ⟨i, by omega, hyi⟩⟩
      intro i y hi hy
      rcases Nat.lt_or_ge i p with hip | hip
      · exact h2 i y hip hy
      · obtain rfl : i = p := by omega
        rw [hx] at hy; injection hy with hy; subst hy
        obtain ⟨q, rfl⟩ : ∃ q, i = q + 1 := by
          rcases i with _ | q
          · simp [kpB] at hb
          · exact ⟨q, rfl⟩
        obtain ⟨u, hu⟩ : ∃ u, ds[q]? = some u := ⟨ds[q]'(by omega), List.getElem?_eq_getElem _⟩
        obtain ⟨z, hz, he⟩ := h2 q u (by omega) hu
        refine ⟨z, hz, ?_⟩
        by_cases e : x.l = u.l
        · rw [he, e]
        · rw [kpB_t hx hu e] at hb; cases hb

/-- the orbit: what the moves make, each once, in order -/
def Orb (w h N : Nat) (cs : List Int) (g : List Mv) (L : List (List Int)) : Prop := L.Pairwise (fun a b => ltL a b = true) ∧ ∀ c, c ∈ L ↔ ∃ m ∈ g, c = apl w h m cs N
theorem orb_kp {w h N : Nat} {cs : List Int} {g : List Mv} {ds es : List Sd} (hd : ds.map Sd.l = g.map (fun m => apl w h m cs N)) (hp : es.Perm ds) (hs : es.Pairwise (fun a b => ltL b.l a.l = false)) : Orb w h N cs g ((kp es es.length).map Sd.l) := by
  obtain ⟨h1, h2, h3⟩ := kp_all hs es.length (Nat.le_refl _)
  refine ⟨List.pairwise_map.2 h1, fun c => ?_⟩
  rw [List.mem_map]
  have hmem : ∀ c, (∃ x ∈ es, x.l = c) ↔ ∃ m ∈ g, c = apl w h m cs N := fun c => by
    have e1 : (∃ x ∈ es, x.l = c) ↔ c ∈ ds.map Sd.l := by
      rw [List.mem_map]
      exact ⟨fun ⟨x, hx, e⟩ => ⟨x, hp.mem_iff.1 hx, e⟩, fun ⟨x, hx, e⟩ => ⟨x, hp.mem_iff.2 hx, e⟩⟩
    rw [e1, hd, List.mem_map]
    exact ⟨fun ⟨m, hm, e⟩ => ⟨m, hm, e.symm⟩, fun ⟨m, hm, e⟩ => ⟨m, hm, e.symm⟩⟩
  rw [← hmem]
  constructor
  · rintro ⟨y, hy, rfl⟩
    obtain ⟨i, hi, hyi⟩ := h3 y hy
    exact ⟨y, List.mem_of_getElem? hyi, rfl⟩
  · rintro ⟨x, hx, rfl⟩
    obtain ⟨i, hi⟩ := List.getElem?_of_mem hx
    obtain ⟨y, hy, e⟩ := h2 i x (List.getElem?_eq_some_iff.1 hi).1 hi
    exact ⟨y, hy, e⟩

theorem Rw.of_own {W : World} {w h N base n : Nat} {v : Value} {ds : List Sd} (hn : n = ds.length) (hn1 : 1 ≤ n) (ho : W.ownsRow base 27 3 v n (ds.flatMap (encS w h N))) :
    ∃ gf cap, v = .slice (some ⟨gf, 0, none⟩) n cap ∧ base ≤ gf ∧ n ≤ cap ∧ cap ≤ 9223372036854775807 ∧ Rw W w h N gf ds := by
  have h0 := ho
  obtain ⟨h1, h2 | ⟨g, cap, cur, rfl, hg, hh, hnc, hcap, hsz, htake⟩⟩ := ho
  · omega
  · have e : ∀ i, (⟨g, 0, none⟩ : Addr).add i = ⟨g, i, none⟩ := fun i => by unfold Addr.add; split <;> simp_all
    refine ⟨g, cap, rfl, hg, hnc, by unfold maxLen at hcap; omega, (Array.getElem?_eq_some_iff.1 hh).1, fun i x hi => ?_, fun o _ => by simp [World.frozen?, hh]⟩
    obtain ⟨a0, a1, a2⟩ := encS_at w h N ds i x hi
    refine ⟨?_, ?_, ?_⟩ <;> (rw [← e]; apply h0.cells (g := g) rfl; assumption)

set_option maxHeartbeats 4000000 in
set_option maxRecDepth 100000 in
theorem orbit_c (w h : Nat) (A : Option Addr) (N0 c : Nat) (g : List Mv) (b off cS : Nat) (cs : List Int) (N : Nat) (W : World) (hs : okSize w h = true) (hall : ∀ m ∈ g, has w h m = true) (hml : Ml W (.slice A N0 c) g) (hN1 : 1 ≤ N0) (hN5 : N0 ≤ 1000)
    (hN : N = w * h) (hb : b < W.heap.size) (hc : ∀ j, j < N → W.cell? ⟨b, off + j, none⟩ = some (.int .i64 (cs.getD j 0))) :
    Calls Try.prog 68 #[.slice A N0 c, .agg #[.int .i64 w, .int .i64 h, .slice (some ⟨b, off, none⟩) N cS]] W fun e W' =>
      ∃ gf cap es, e = .returned (.slice (some ⟨gf, 0, none⟩) es.length cap) ∧ es.length ≤ cap ∧ cap ≤ 9223372036854775807 ∧ 1 ≤ es.length ∧ es.length ≤ 1000 ∧ W.heap.size ≤ gf ∧ Rw W' w h N gf es ∧ (∀ x ∈ es, Ar3 W' x.b x.l ∧ x.l.length = N ∧ x.b ≠ gf) ∧ Orb w h N cs g (es.map Sd.l) ∧ Ext W W' := by
  obtain ⟨i0, hi, hz0, hz1, hz2⟩ := info_parts info27
  have hN64 : N ≤ 64 := by
    have hs' := okSize_iff.1 hs
    rw [hN]; exact Nat.mul_le_mul (show w ≤ 8 by omega) (show h ≤ 8 by omega)
  have hap := fun m X (hm : has w h m = true) (hX : Ext W X) => applied_m w h m b off cS cs N X hs hm hN (Nat.lt_of_lt_of_le hb hX.size) (fun j hj => keepAt hX hb (hc j hj))
  have hla : ∀ m, (apl w h m cs N).length = N := fun m => by rw [apl_len, hN]
  have HAP := Lib.hid hap; have HALL := Lib.hid hall; have HML := Lib.hid hml; have HLA := Lib.hid hla; have HB := Lib.hid hb
  clear hap hall hml hla hs hN hc hb
  have hlen : N0 = g.length := HML.out.len
  have HLEN := Lib.hid hlen; clear hlen
  obtain ⟨AS, hAS⟩ : ∃ AS, AS = some (⟨b, off, none⟩ : Addr) := ⟨_, rfl⟩
  rw [← hAS]
  have HAS := Lib.hid hAS; clear hAS
  go_enter Try.func68, Try.ntmps68
  go_wp2_with fail
  have q1 : Q3 (W.alloc (.cells #[.int .i64 w, .int .i64 h, .slice AS N cS] 27)) W.heap.size (.int .i64 w) (.int .i64 h) (.slice AS N cS) := by
    refine ⟨?_, ?_, ?_⟩ <;> (rw [World.cell?_alloc_new]; rfl)
  have bb := al1 W (.cells #[.int .i64 w, .int .i64 h, .slice AS N cS] 27)
  have zz : (W.alloc (.cells #[.int .i64 w, .int .i64 h, .slice AS N cS] 27)).heap.size = W.heap.size + 1 := by simp
  generalize (W.alloc (.cells #[.int .i64 w, .int .i64 h, .slice AS N cS] 27)) = W1 at *
  have zle : W.heap.size < W1.heap.size := by omega
  have BB : Hid (Ext W W1) := Lib.hid bb; have H1 := Lib.hid q1
  clear bb zz q1
  go_loopw [5, 10] (fun v i wr => ∃ k : Nat, i = .int .i64 k ∧ k ≤ N0 ∧ OR W1 w h N cs g k v wr) (fun _ i _ => N0 - (intOf i).toNat)
  case atStart => exact ⟨0, rfl, by omega, [], by simp, rfl, ⟨rfl, .inl ⟨rfl, rfl⟩⟩, (fun x hx => by cases hx), Ext.refl _⟩
  case round =>
    obtain ⟨k, rfl, hk, ds, hd, hdl, hown, har, hex⟩ := hrel
    have HD := Lib.hid hd; have HOWN := Lib.hid hown; have HAR := Lib.hid har; have HEX := Lib.hid hex; have HDL := Lib.hid hdl; clear hd hown har hex hdl
    by_cases hlt : k < N0
    · obtain ⟨m, hm⟩ : ∃ m, g[k]? = some m := ⟨g[k]'(by rw [← HLEN.out]; exact hlt), List.getElem?_eq_getElem _⟩
      obtain ⟨b1, off1, rfl, hb1, hc1⟩ := HML.out.cm (by omega)
      obtain ⟨d0, d1, d2, d3⟩ := (hc1.ext hb1 (BB.out.trans HEX.out)) k m hm
      clear hc1
      obtain ⟨z0, z1, z2⟩ := H1.out.ext zle HEX.out
      have hszz : W.heap.size < wr.heap.size := Nat.lt_of_lt_of_le zle HEX.out.size
      have hmh : has w h m = true := HALL.out m (List.mem_of_getElem? hm)
      have eA := HAS.out
      have hap := fun X (hX : Ext W X) => HAP.out m X hmh hX
      rw [← eA] at hap
      have hla := HLA.out m
      obtain ⟨cl, hcl⟩ : ∃ cl, cl = apl w h m cs N := ⟨_, rfl⟩
      simp only [← hcl] at hap
      rw [← hcl] at hla
      have HM := Lib.hid hm; have HAPM := Lib.hid hap; have HCL := Lib.hid hcl; clear hm hap hcl eA hmh
      go_wp2_with fail
      refine (HAPM.out _ ((BB.out.trans HEX.out).alc _)).mono ?_
      rintro e V ⟨gx, rfl, hgx, ha3, hx⟩
      have e1 : Ext wr V := nx ((Ext.refl wr).alc _) hx
      have HA3 := Lib.hid ha3; have E1 := Lib.hid e1; clear hx ha3 e1 d0 d1 d2 d3 z0 z1 z2
      have hown := (World.ownsRow.ext HOWN.out E1.out).alloc (.cells #[.int .i64 w, .int .i64 h, .slice (some ⟨gx, 0, none⟩) N N] 27)
      have hbase := (HEX.out.trans E1.out).size
      go_wp2_with (at_builtin; refine wpList_append_own _ rfl _ _ 63 rfl W1.heap.size 27 i0 (.agg #[.int .i64 0, .int .i64 0, .slice none 0 0]) 3 40 Try.underlying63 hi hz0 hz1 hz2 rfl (by decide) _ _ _ rfl hown ⟨V.heap.size, 0, none⟩ 1 1 (encS w h N ⟨gx, cl⟩) rfl rfl ?c1 ?c2 ?c3 ?c4 ?c5 ?_)
      case c1 =>
        intro j u hj
        match j, hj with
        | 0, hj => simp [encS] at hj; subst hj; simp [Addr.add]
        | 1, hj => simp [encS] at hj; subst hj; simp [Addr.add]
        | 2, hj => simp [encS] at hj; subst hj; simp [Addr.add]
        | j + 3, hj => simp [encS] at hj
      case c2 => intro u hu; simp [encS] at hu; rcases hu with rfl | rfl | rfl <;> rfl
      case c3 => unfold maxLen; omega
      case c4 => omega
      case c5 => simp; omega
      intro v' w9 hown' hgrow _
      have e9 : Ext W1 w9 := Below.grown ((HEX.out.trans E1.out).alc (.cells #[.int .i64 w, .int .i64 h, .slice (some ⟨gx, 0, none⟩) N N] 27)) hgrow (by simp; omega) (fun k hk => by have := (hown.lt k hk).1; omega)
      have har9 : ∀ x ∈ ds ++ [⟨gx, cl⟩], Ar3 w9 x.b x.l := by
        intro x hx
        have hx2 : Ar3 (V.alloc (.cells #[.int .i64 w, .int .i64 h, .slice (some ⟨gx, 0, none⟩) N N] 27)) x.b x.l := by
          rcases List.mem_append.1 hx with h1 | h1
          · exact ((HAR.out x h1).ext E1.out).ext ((Ext.refl _).alc _)
          · rw [List.mem_singleton] at h1; subst h1; exact HA3.out.ext ((Ext.refl _).alc _)
        exact hx2.grown hgrow (hx2.not_row (by decide) hown)
      have hor : Hid (OR W1 w h N cs g (k + 1) v' w9) := Lib.hid (by
        refine ⟨ds ++ [⟨gx, cl⟩], ?_, by rw [List.length_append, HDL.out]; rfl, ?_, har9, e9⟩
        · rw [List.map_append, HD.out, List.take_add_one, HM.out, List.map_append, HCL.out]; rfl
        · rw [List.flatMap_append]
          simpa using hown')
      clear e9 har9 hown' hgrow hown
      go_wp2_with fail
      go_roundw
      case rel => exact ⟨k + 1, by go_num, by omega, hor.out⟩
      case measure => simp [intOf]; omega
    · obtain rfl : k = N0 := by omega
      obtain ⟨gf, cap, rfl, hbg, hcap, hcap2, hrw⟩ := Rw.of_own HDL.out.symm hN1 HOWN.out
      have hd := HD.out
      rw [List.take_of_length_le (by rw [← HLEN.out]; exact Nat.le_refl _)] at hd
      have har : ∀ x ∈ ds, Ar3 wr x.b x.l ∧ x.l.length = N ∧ x.b ≠ gf := fun x hx => by
        have h1 := HAR.out x hx
        refine ⟨h1, ?_, ?_⟩
        · have : x.l ∈ ds.map Sd.l := List.mem_map_of_mem hx
          rw [hd, List.mem_map] at this
          obtain ⟨m, -, e⟩ := this
          rw [← e]; exact HLA.out m
        · have := h1.not_row (by decide) HOWN.out
          intro e
          exact this (by rw [e]; rfl)
      have hsort := sort_c w h N gf cap k ds wr HDL.out.symm hN1 hN5 (by omega) hrw har
      have HSORT := Lib.hid hsort; have HR := Lib.hid har; have HDD := Lib.hid hd
      clear hsort har hrw hd HOWN HAR HD hlt
      go_wp2_with fail
      refine HSORT.out.mono ?_
      rintro e V ⟨rfl, es, hp, hss, hrw2, hgx⟩
      have hle : es.length = k := by rw [hp.length_eq]; exact HDL.out
      have har2 : ∀ x ∈ es, Ar3 V x.b x.l ∧ x.l.length = N ∧ x.b ≠ gf := fun x hx => by
        obtain ⟨a1, a2, a3⟩ := HR.out x (hp.mem_iff.1 hx)
        exact ⟨a1.gx hgx a3, a2, a3⟩
      have hcomp := compact_c w h N gf cap k es V hle.symm hN1 hN5 hcap hcap2 (by omega) hrw2 har2
      have horb := orb_kp HDD.out hp hss
      rw [hle] at horb
      have hkl := kp_len es k
      have hkm : ∀ x ∈ kp es k, x ∈ es := fun x hx => kp_mem hx (by rw [hle]; exact Nat.le_refl _)
      have hk1 : 1 ≤ (kp es k).length := by
        have e0 : kpB es 0 = true := by simp [kpB]
        obtain ⟨y, hy⟩ : ∃ y, es[0]? = some y := ⟨es[0]'(by omega), List.getElem?_eq_getElem _⟩
        obtain ⟨z, hz, -⟩ := (kp_all hss k (by omega)).2.1 0 y (by omega) hy
        exact List.length_pos_of_mem hz
      have HC := Lib.hid hcomp; have HO := Lib.hid horb; have HR2 := Lib.hid har2; have HG := Lib.hid hgx; have HKM := Lib.hid hkm
      clear hcomp horb har2 hgx hrw2 hle hp hss hkm HSORT HR HDD HDL
      go_wp2_with fail
      refine HC.out.mono ?_
      rintro e V2 ⟨rfl, hrw3, hgx2⟩
      have HRW3 := Lib.hid hrw3; have HG2 := Lib.hid (HG.out.trans hgx2)
      have har3 : ∀ x ∈ kp es k, Ar3 V2 x.b x.l ∧ x.l.length = N ∧ x.b ≠ gf := fun x hx => by
        obtain ⟨a1, a2, a3⟩ := HR2.out x (HKM.out x hx)
        exact ⟨a1.gx hgx2 a3, a2, a3⟩
      have HR3 := Lib.hid har3
      have hextf : Ext W V2 := HG2.out.ext_ (B := W.heap.size) (by omega) (BB.out.trans HEX.out) (Nat.le_of_lt (Nat.lt_of_lt_of_le zle HEX.out.size))
      have HXF := Lib.hid hextf
      clear hrw3 hgx2 har3 hextf HC HG HR2 HKM
      obtain ⟨nk, hnk⟩ : ∃ nk, nk = (kp es k).length := ⟨_, rfl⟩
      rw [← hnk] at hkl hk1 ⊢
      have HNK := Lib.hid hnk; clear hnk
      go_wp2
      go_ret
      exact ⟨gf, cap, kp es k, by rw [← HNK.out]; rfl, by rw [← HNK.out]; omega, hcap2, by rw [← HNK.out]; exact hk1, by rw [← HNK.out]; omega, by omega, HRW3.out, HR3.out, HO.out, HXF.out⟩
end Go.Proofs.Ytgjanbgehbpciaa
