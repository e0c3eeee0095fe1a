/- Walks: the reference's division of naturals. · Walks: the reference's Over. · Walks of the reference: Exactly. · Walks: the reference's whole numbers. -/
import Derived.Test.YtmlopkkbgpfdnaaGreatDoorM13
import Derived.Test.YtmlopkkbgpfdnaaGreatDoorM15
import Derived.Test.YtmlopkkbgpfdnaaGreatDoorM6
import Derived.Laws.AppendOwnNone
import Derived.Laws.OwnMore
import Derived.Test.YtmlopkkbgpfdnaaGreatDoorM14
namespace Go.Proofs.YtmlopkkbgpfdnaaGreatDoor
open Go.RowKit

set_option maxRecDepth 100000 in
/-- ref small -/
theorem smallR_any (x d : Nat) (u : Value) (w : World) (hx : Wd w u (dig x)) (lx : (dig x).length ≤ 1000000) (hd : d < 4294967296) :
    Calls Tryz.prog 74 #[u, .int .u32 d] w fun e w' => ∃ r, e = .returned r ∧ Wd w' r (dig (x * d)) ∧ Below w.heap.size w w' := by
  have Hx := Lib.hid hx
  obtain ⟨A, n, c, rfl⟩ := hx.slice_
  clear hx
  have ld : (dig d).length ≤ 1000000 := by have := dig_len_le (n := d) (k := 1) (by simpa using hd); omega
  have Ld := Lib.hid ld; clear ld
  go_enter Tryz.func74, Tryz.ntmps74
  go_wp2_with fail
  refine (asSlice (naturalR_any d (by omega) _)).mono ?_
  rintro e w1 ⟨A1, n1, c1, rfl, h1, hb1⟩
  have H1 := Lib.hid h1; clear h1
  have Hb1 := Lib.hid hb1; clear hb1
  go_wp2_with fail
  refine (asSlice (timesR_any x d _ _ _ (Hx.out.below Hb1.out) H1.out lx Ld.out)).mono ?_
  rintro e w2 ⟨A2, n2, c2, rfl, h2, hb2⟩
  have H2 := Lib.hid h2; clear h2
  have Hb2 := Lib.hid hb2; clear hb2
  go_wp2
  go_ret
  exact ⟨_, rfl, H2.out, Hb1.out.trans (Hb2.out.mono Hb1.out.size)⟩

/-- nil, or with an address -/
def Held (v : Value) : Prop := v = .slice none 0 0 ∨ ∃ b o n c, v = .slice (some ⟨b, o, none⟩) n c

theorem Wd.news {w : World} {b o n c : Nat} {l : List Nat} (h : Wd w (.slice (some ⟨b, o, none⟩) n c) l) : ∀ j u, (l.map uw)[j]? = some u → w.cell? ((⟨b, o, none⟩ : Addr).add j) = some u := by
  intro j u hj
  obtain ⟨A', c', he, h1, h2, h3, h4⟩ := h
  injection he with e1 e2 e3
  rw [List.getElem?_map] at hj
  rcases Nat.lt_or_ge j l.length with hl | hl
  · obtain ⟨b', o', e, hb, hc⟩ := h4 (by omega)
    rw [← e1] at e
    injection e with e
    injection e with e5 e6
    subst e5 e6
    have e7 : (⟨b, o, none⟩ : Addr).add j = ⟨b, o + j, none⟩ := by unfold Addr.add; split <;> simp_all
    rw [List.getElem?_eq_getElem hl] at hj
    simp only [Option.map_some, Option.some.injEq] at hj
    rw [e7, hc j hl, ← hj, List.getD_eq_getElem?_getD, List.getElem?_eq_getElem hl]
    rfl
  · rw [List.getElem?_eq_none hl] at hj; simp at hj

/-- the loop over the words -/
def Rel4 (x y n gq : Nat) (w : World) (a b : Value) (wr : World) : Prop :=
  ∃ (k : Nat) (Q : List Nat), b = .int .i64 ((k : Int) - 1) ∧ k ≤ n ∧ Held a ∧ Wd wr a (dig (x / 4294967296 ^ k % y)) ∧ Q.length = n ∧ Ok Q ∧ Blk wr gq Q ∧ Below w.heap.size w wr ∧
    (∀ j, k ≤ j → j < n → Q.getD j 0 = dg (x / y) j) ∧ ∀ j, j < k → Q.getD j 0 = 0
/-- the loop that halves -/
def Rel5 (y z : Nat) (wo : World) (a b : Value) (wr : World) : Prop :=
  ∃ lo hi : Nat, a = .int .u64 lo ∧ b = .int .u64 hi ∧ lo < hi ∧ hi ≤ 4294967296 ∧ y * lo ≤ z ∧ z < y * hi ∧ Below wo.heap.size wo wr

theorem own_shape {w : World} {base m : Nat} {v : Value} {xs : List Value} (h : w.ownsRow base 66 1 v (1 + m) xs) : ∃ g cap, v = .slice (some ⟨g, 0, none⟩) (1 + m) cap := by
  rcases h.2 with ⟨_, h0⟩ | ⟨g, cap, cur, rfl, _⟩
  · omega
  · exact ⟨g, cap, rfl⟩

theorem halve_done {y z lo hi : Nat} (h1 : y * lo ≤ z) (h2 : z < y * hi) (hlt : lo < hi) (h : hi - lo ≤ 1) (hy : 0 < y) : lo = z / y ∧ z - y * lo = z % y := by
  obtain rfl : hi = lo + 1 := by omega
  rw [Nat.mul_add, Nat.mul_one] at h2
  have e : lo = z / y := by
    have a : lo ≤ z / y := (Nat.le_div_iff_mul_le hy).2 (by rw [Nat.mul_comm]; exact h1)
    have b : z / y < lo + 1 := by rw [Nat.div_lt_iff_lt_mul hy, Nat.add_mul, Nat.mul_comm lo]; omega
    omega
  refine ⟨e, ?_⟩
  rw [e]
  have := Nat.div_add_mod z y
  omega

theorem len_word {y z k : Nat} (h : (dig y).length ≤ k) (hz : z < y * 4294967296) : (dig z).length ≤ k + 1 := by
  apply dig_len_le
  rw [Nat.pow_succ]
  exact Nat.lt_of_lt_of_le hz (Nat.mul_le_mul_right _ (Nat.le_of_lt (lt_of_dig_len h)))

theorem Wd.set_far {w : World} {b o n c g i : Nat} {l : List Nat} {v : Value} (h : Wd w (.slice (some ⟨b, o, none⟩) n c) l) (hne : b ≠ g) : Wd (w.setCell ⟨g, i, none⟩ v) (.slice (some ⟨b, o, none⟩) n c) l := by
  obtain ⟨A', c', he, h1, h2, h3, h4⟩ := h
  refine ⟨A', c', he, h1, h2, h3, fun hp => ?_⟩
  obtain ⟨b', o', e, hb, hc⟩ := h4 hp
  injection he with e1 e2 e3
  rw [← e1] at e
  injection e with e
  injection e with e5 e6
  subst e5 e6
  refine ⟨b, o, e1.symm, by simpa [World.setCell] using hb, fun j hj => ?_⟩
  rw [World.cell?_setCell_other _ _ _ _ (by intro e; injection e with e1; exact hne e1.symm)]
  exact hc j hj

set_option maxHeartbeats 400000 in
set_option maxRecDepth 100000 in
/-- ref divided -/
theorem dividedR_any (x y : Nat) (u v : Value) (w : World) (hx : Wd w u (dig x)) (hy : Wd w v (dig y)) (lx : (dig x).length ≤ 999999) (ly : (dig y).length ≤ 999990) (hy0 : 0 < y) :
    Calls Tryz.prog 61 #[u, v] w (DivN x y w) := by
  obtain ⟨i0, hi, hz0, hz1, hz2⟩ := info_parts info66
  have Hx := Lib.hid hx
  have Hy := Lib.hid hy
  obtain ⟨A, c, rfl, -, hcl⟩ := hx.shape
  obtain ⟨A', n', c', rfl⟩ := hy.slice_
  obtain ⟨n, hn⟩ : ∃ n, n = (dig x).length := ⟨_, rfl⟩
  rw [← hn] at lx Hx ⊢
  have Hn := Lib.hid hn; clear hn hx hy
  have Ly := Lib.hid ly; clear ly
  have hmk : ∀ w, (Instr.makeSlice 53 (.int .i64 (n : Int)) (.int .i64 (n : Int))).run Tryz.prog w = .ok (.slice (some ⟨w.heap.size, 0, none⟩) n n) (w.alloc (.cells (U32s (zeros n)) 66)) := fun w => make_u32 53 Tryz.underlying53 n (by omega) w
  go_enter Tryz.func61, Tryz.ntmps61
  go_wp2_with fail
  go_loopw [7, 8] (fun a b wr => Rel4 x y n w.heap.size w a b wr) (fun _ b _ => (intOf b + 1).toNat)
  case atStart => exact ⟨n, zeros n, rfl, Nat.le_refl _, .inl rfl, by rw [div_len (by rw [Hn.out]; exact Nat.le_refl _), Nat.zero_mod, dig_zero]; exact Wd.nil_ _, zeros_length _, zeros_ok _, heap_alloc_new w _, below_alloc _ _, fun j h h' => absurd h (by omega), fun j _ => zeros_getD _ _⟩
  case round =>
    obtain ⟨k, Q, rfl, hk, hheld, hwd, hQ, hokq, hblk, hbel, hval, hz⟩ := hrel
    have HQ := Lib.hid hQ; clear hQ
    have HV := Lib.hid hval; clear hval
    have HZ := Lib.hid hz; clear hz
    by_cases hk0 : k = 0
    · subst hk0
      have hv : val Q = x / y := val_of_dgs (fun j hj => HV.out j (Nat.zero_le _) (by rw [← HQ.out]; exact hj)) (by rw [HQ.out]; exact Nat.lt_of_le_of_lt (Nat.div_le_self _ _) (lt_of_dig_len (by rw [← Hn.out]; omega)))
      have hw2 := hblk.wd hokq (by rw [HQ.out]; omega) n (by rw [HQ.out]; omega) (by omega)
      rw [HQ.out] at hw2
      rw [Nat.pow_zero, Nat.div_one] at hwd
      have Hwd := Lib.hid hwd
      obtain ⟨A5, n5, c5, rfl⟩ := hwd.slice_
      have Hv := Lib.hid hv; clear hv
      have Hw := Lib.hid hw2; clear hw2 hblk hwd hheld
      go_wp2_with fail
      refine (trimR_any _ _ _ Hw.out).mono ?_
      rintro e w' ⟨r, rfl, hr, rfl⟩
      rw [Hv.out] at hr
      have Hr := Lib.hid hr
      obtain ⟨A3, n3, c3, rfl⟩ := hr.slice_
      clear hr
      go_wp2
      go_ret2
      exact ⟨_, _, rfl, Hr.out, Hwd.out, hbel⟩
    · obtain ⟨k, rfl⟩ : ∃ j, k = j + 1 := ⟨k - 1, by omega⟩
      obtain ⟨b, off, rfl, hb, hcx⟩ := Wd.cell (k := k) Hx.out (by omega)
      have h1 : wr.cell? ⟨b, off + k, none⟩ = some (.int .u32 (dg x k : Nat)) := (hbel.cell (p := ⟨b, off + k, none⟩) hb).trans (hcx k (by omega))
      clear hcx
      obtain ⟨p, hp⟩ : ∃ p, p = dg x k := ⟨_, rfl⟩
      have hpl : p < 4294967296 := by rw [hp]; exact dg_lt _ _
      rw [← hp] at h1
      obtain ⟨q, hq⟩ : ∃ q, q = x / 4294967296 ^ (k + 1) % y := ⟨_, rfl⟩
      have hql : q < y := by rw [hq]; exact Nat.mod_lt _ hy0
      obtain ⟨z, hz⟩ : ∃ z, z = q * 4294967296 + p := ⟨_, rfl⟩
      obtain ⟨f1, f2, f3⟩ := quo_word (x := x) (z := z) hy0 hq (by rw [hz, hp])
      rw [← hq] at hwd
      have lq : (dig q).length ≤ 999990 := Nat.le_trans (dig_len_mono (Nat.le_of_lt hql)) Ly.out
      have F1 := Lib.hid f1; clear f1
      have F2 := Lib.hid f2; clear f2
      have F3 := Lib.hid f3; clear f3
      have HB := Lib.hid hblk; clear hblk
      clear hp hq
      have hzv : val (p :: dig q) = z := by simp only [val, val_dig]; omega
      have hzo : Ok (p :: dig q) := Ok.mk hpl (ok_dig q)
      have Hz := Lib.hid hz; clear hz
      have Hzv := Lib.hid hzv; clear hzv
      have i1 : ((k + 1 : Nat) : Int) - 1 = (k : Int) := by omega
      rw [i1]
      clear i1
      rcases hheld with rfl | ⟨bq, oq, nq, cq, rfl⟩
      all_goals first
        | go_wp2_with fail
          have hq0 : q = 0 := by
            have := hwd.len
            exact dig_eq_nil.1 (List.eq_nil_of_length_eq_zero this.symm)
          have hw1 : Wd (wr.alloc (Obj.cells #[.int .u32 p] 66)) (.slice (some ⟨wr.heap.size, 0, none⟩) 1 1) (p :: dig q) := by
            rw [hq0, dig_zero]
            exact Wd.new wr [p] (Ok.mk hpl Ok.nil) _ _ 1 1 rfl (by omega) (by omega) (fun j hj => by
              match j, hj with
              | 0, _ => simp)
          have hb1 := below_alloc wr (Obj.cells #[.int .u32 p] 66)
          obtain ⟨gg, hgg⟩ : ∃ g, g = wr.heap.size := ⟨_, rfl⟩
          obtain ⟨w1, hw1'⟩ : ∃ w1, w1 = wr.alloc (Obj.cells #[.int .u32 p] 66) := ⟨_, rfl⟩
          rw [← hw1', ← hgg] at hw1 ⊢
          rw [← hw1'] at hb1
          refine (trimR_at _ _ _ _ _ hw1).mono ?_
          rintro e w1 ⟨kr, rfl, hr, rfl⟩
          rw [Hzv.out] at hr
          have Hb1 := Lib.hid hb1; clear hb1
          clear hw1 hw1' hq0 hgg
        | go_wp2_with (at_builtin; refine wpList_append_own _ rfl _ _ 53 rfl wr.heap.size 66 i0 (.int .u32 0) 1 4 Tryz.underlying53 hi hz0 hz1 hz2 rfl (by decide) _ 1 [uw p] rfl (World.ownsRow_lit wr #[uw p] 1 (Nat.le_refl _) (by unfold maxLen; omega) rfl) ⟨bq, oq, none⟩ nq cq ((dig q).map uw) rfl ?c1 ?c2 ?c3 ?c4 ?c5 ?c6 ?_)
          case c1 => rw [List.length_map, Nat.mul_one, hwd.len]
          case c2 => exact (hwd.below (below_alloc wr _)).news
          case c3 =>
            intro u hu
            obtain ⟨t, -, rfl⟩ := List.mem_map.1 hu
            rfl
          case c4 => rw [hwd.len]; unfold maxLen; omega
          case c5 => rw [hwd.len]; omega
          case c6 => simp
          intro v' w1 hown hgrow _
          have hlen : nq = (dig q).length := hwd.len
          have hown2 : w1.ownsRow wr.heap.size 66 1 v' (p :: dig q).length ((p :: dig q).map uw) := by
            rw [List.length_cons, List.map_cons, ← hlen, Nat.add_comm]; exact hown
          have hw1 := Wd.of_own hown2 hzo
          obtain ⟨gg, cap, rfl⟩ := own_shape hown
          have hb1 : Below wr.heap.size wr w1 := (below_alloc wr _).grown hgrow (by simp) (fun k hk => (World.ownsRow_lit wr #[uw p] 1 (base := wr.heap.size) (size := 1) (e := 66) (Nat.le_refl _) (by unfold maxLen; omega) rfl).lt k hk |>.1)
          clear hown2 hown hgrow hlen
          have Hb1 := Lib.hid hb1; clear hb1
          go_wp2_with fail
          refine (trimR_at _ _ _ _ _ hw1).mono ?_
          rintro e w1 ⟨kr, rfl, hr, rfl⟩
          rw [Hzv.out] at hr
          clear hw1
      all_goals
        have hbel1 := hbel.trans (Hb1.out.mono hbel.size)
        have HY1 := Lib.hid (Hy.out.below hbel1)
        have HB1 := Lib.hid (HB.out.below Hb1.out (by have := hbel.size; exact HB.out.lt))
        have Hbel1 := Lib.hid hbel1
        have Hr := Lib.hid hr; clear hr hbel1 hwd hbel HB Hb1 h1
        go_wp2_with fail
        by_cases hzy : z < y
        · refine (orderR_any z y _ _ _ Hr.out HY1.out).mono ?_
          rintro e w2 ⟨rfl, nd, rfl⟩
          rw [cmpN_lt hzy]
          have Hzy := Lib.hid hzy; clear hzy
          go_wp2
          go_roundw
          case rel =>
            refine ⟨k, Q, rfl, by omega, .inr ⟨gg, 0, kr, _, rfl⟩, ?_, HQ.out, hokq, HB1.out, Below.toDrewN Hbel1.out nd, ?_, fun j hj => HZ.out j (by omega)⟩
            · rw [F2.out, Nat.mod_eq_of_lt Hzy.out]; exact Hr.out
            · intro j hj hj'
              by_cases e : j = k
              · subst e; rw [HZ.out j (by omega), F1.out, Nat.div_eq_of_lt Hzy.out]
              · exact HV.out j (by omega) hj'
          case measure => simp [intOf]
        · obtain ⟨cv, hcv⟩ : ∃ c, c = cmpN z y := ⟨_, rfl⟩
          have hcv0 : 0 ≤ cv := by rw [hcv]; unfold cmpN; rw [if_neg hzy]; split <;> omega
          refine (orderR_any z y _ _ _ Hr.out HY1.out).mono ?_
          rintro e w2 ⟨rfl, nd, rfl⟩
          rw [← hcv]
          clear hcv
          have Hzy := Lib.hid hzy; clear hzy
          obtain ⟨wo, hwo⟩ : ∃ wo, wo = w1.drewN nd := ⟨_, rfl⟩
          have HYo : Hid (Wd wo (.slice A' n' c') (dig y)) := by rw [hwo]; exact HY1
          have HBo : Hid (Blk wo w.heap.size Q) := by rw [hwo]; exact HB1
          have Hro := Lib.hid (show Wd wo _ (dig z) by rw [hwo]; exact Hr.out)
          have Hbelo : Hid (Below w.heap.size w wo) := by rw [hwo]; exact Lib.hid (Below.toDrewN Hbel1.out nd)
          rw [← hwo]
          clear hwo Hr HY1 HB1 Hbel1
          go_wp2_with fail
          have hz1 : y * 1 ≤ z := by have := Hzy.out; omega
          have hz2 : z < y * 4294967296 := by
            have := F3.out
            rw [Nat.div_lt_iff_lt_mul hy0] at this
            rw [Nat.mul_comm]; exact this
          have Hz1 := Lib.hid hz1; clear hz1
          have Hz2 := Lib.hid hz2; clear hz2
          go_loopw [9, 10] (fun a b wr => Rel5 y z wo a b wr) (fun a b _ => (intOf b - intOf a).toNat)
          case atStart => exact ⟨1, 4294967296, rfl, rfl, by omega, by omega, Hz1.out, Hz2.out, Below.refl _ _⟩
          case round =>
            obtain ⟨lo, hi', rfl, rfl, hlt, hle, hlo, hhi, hbl⟩ := hrel
            have Hlo := Lib.hid hlo; clear hlo
            have Hhi := Lib.hid hhi; clear hhi
            have HY3 := Lib.hid (HYo.out.below hbl)
            have Hr3 := Lib.hid (Hro.out.below hbl)
            have Hbl := Lib.hid hbl; clear hbl
            have Lyy := Ly.out
            have hly : (dig y).length ≤ 1000000 := by omega
            have Hly := Lib.hid hly; clear hly Lyy
            by_cases hend : hi' - lo ≤ 1
            · obtain ⟨hq1, hq2⟩ := halve_done Hlo.out Hhi.out hlt hend hy0
              have HB3 := Lib.hid (HBo.out.below Hbl.out HBo.out.lt)
              have Hq1 := Lib.hid hq1; clear hq1
              have Hq2 := Lib.hid hq2; clear hq2
              have hlol : lo < 4294967296 := by omega
              have hd1 : ¬ (1 : Int) < (hi' : Int) - lo := by omega
              go_wp2_with fail
              refine (asSlice (smallR_any y lo _ wr HY3.out Hly.out hlol)).mono ?_
              rintro e w3 ⟨A7, n7, c7, rfl, h7, hb7⟩
              have H7 := Lib.hid h7; clear h7
              have HB4 := Lib.hid (HB3.out.below hb7 HB3.out.lt)
              have Hr4 := Lib.hid (Hr3.out.below hb7)
              have hb37 := (Hbelo.out.trans (Hbl.out.mono Hbelo.out.size))
              have Hb7 := Lib.hid (hb37.trans (hb7.mono hb37.size))
              have hlz : (dig z).length ≤ 1000000 := Nat.le_trans (len_word Ly.out Hz2.out) (by omega)
              have Hlz := Lib.hid hlz; clear hlz hb7 hb37 HB3 Hr3
              go_wp2_with fail
              refine (lessR_at z (y * lo) _ _ w3 Hr4.out H7.out Hlz.out Hlo.out).mono ?_
              rintro e w4 ⟨b8, o8, n8, c8, rfl, hge8, h8, hb8⟩
              have hblk4 := HB4.out.below hb8 HB4.out.lt
              have hfr := hblk4.frozen k
              have hce := hblk4.cell (i := k) (by rw [HQ.out]; omega)
              have HB5 := Lib.hid hblk4
              have Hb8 := Lib.hid (Hb7.out.trans (hb8.mono Hb7.out.size))
              have hne8 : b8 ≠ w.heap.size := by have := HB4.out.lt; omega
              have H8 := Lib.hid h8; clear h8 hblk4 hb8 HB4 Hr4 H7 Hb7
              go_wp2
              go_roundw
              case rel =>
                refine ⟨k, Q.set k lo, rfl, by omega, .inr ⟨b8, o8, n8, c8, rfl⟩, ?_, by rw [List.length_set, HQ.out], hokq.set hlol, HB5.out.set_ _ _, Hb8.out.setCell (p := ⟨w.heap.size, k, none⟩) (Nat.le_refl _) _, ?_, ?_⟩
                · rw [F2.out, ← Hq2.out]
                  exact H8.out.set_far hne8
                · intro j hj hj'
                  by_cases e : j = k
                  · subst e; rw [getD_set_self (by rw [HQ.out]; exact hj'), F1.out, Hq1.out]
                  · rw [getD_set_ne (fun e' => e e'.symm)]; exact HV.out j (by omega) hj'
                · intro j hj
                  rw [getD_set_ne (by omega)]; exact HZ.out j (by omega)
              case measure => simp [intOf]
            · obtain ⟨m, hm⟩ : ∃ m, m = (lo + hi') / 2 := ⟨_, rfl⟩
              have hm1 : lo < m := by omega
              have hm2 : m < hi' := by omega
              have hml : m < 4294967296 := by omega
              have hmI : ((lo : Int) + hi') / 2 = (m : Int) := by omega
              have HmI := Lib.hid hmI; clear hmI hm
              have hd1 : (1 : Int) < (hi' : Int) - lo := by omega
              go_wp2_with fail
              try rw [HmI.out]
              refine (asSlice (smallR_any y m _ wr HY3.out Hly.out hml)).mono ?_
              rintro e w3 ⟨A7, n7, c7, rfl, h7, hb7⟩
              have H7 := Lib.hid h7; clear h7
              have Hr4 := Lib.hid (Hr3.out.below hb7)
              have Hb7 := Lib.hid (Hbl.out.trans (hb7.mono Hbl.out.size)); clear hb7
              go_wp2_with fail
              by_cases hmz : y * m ≤ z
              · obtain ⟨c2, hc2⟩ : ∃ c, c = cmpN (y * m) z := ⟨_, rfl⟩
                have hc20 : c2 ≤ 0 := by rw [hc2]; unfold cmpN; split; omega; rw [if_neg (by omega)]; omega
                refine (orderR_any (y * m) z _ _ _ H7.out Hr4.out).mono ?_
                rintro e w4 ⟨rfl, nd2, rfl⟩
                rw [← hc2]
                clear hc2
                have Hmz := Lib.hid hmz; clear hmz
                go_wp2
                go_roundw
                case rel => exact ⟨m, hi', rfl, rfl, hm2, hle, Hmz.out, Hhi.out, Below.toDrewN Hb7.out nd2⟩
                case measure => simp [intOf]; omega
              · obtain ⟨c2, hc2⟩ : ∃ c, c = cmpN (y * m) z := ⟨_, rfl⟩
                have hc20 : 0 < c2 := by rw [hc2, cmpN_gt (by omega)]; omega
                refine (orderR_any (y * m) z _ _ _ H7.out Hr4.out).mono ?_
                rintro e w4 ⟨rfl, nd2, rfl⟩
                rw [← hc2]
                clear hc2
                have hmz' : z < y * m := by omega
                have Hmz := Lib.hid hmz'; clear hmz hmz'
                go_wp2
                go_roundw
                case rel => exact ⟨lo, m, rfl, rfl, hm1, by omega, Hlo.out, Hmz.out, Below.toDrewN Hb7.out nd2⟩
                case measure => simp [intOf]; omega
end Go.Proofs.YtmlopkkbgpfdnaaGreatDoor
namespace Go.Proofs.YtmlopkkbgpfdnaaGreatDoor
open Go.RowKit

theorem four_blocksR (w : World) (p q : Bool) (A A' : Option Addr) (n c n' c' : Nat) : ∃ W, W = ((((w.alloc (Obj.cells #[.bool p, .slice A n c] 55)).alloc (Obj.cells #[.bool q, .slice A' n' c'] 55)).alloc (Obj.cells #[.bool false, .slice none 0 0] 55)).alloc (Obj.cells #[.bool false, .slice none 0 0] 55)) ∧
    W.cell? ⟨w.heap.size, 0, none⟩ = some (.bool p) ∧ W.cell? ⟨w.heap.size, 1, none⟩ = some (.slice A n c) ∧ W.cell? ⟨w.heap.size + 1, 0, none⟩ = some (.bool q) ∧ W.cell? ⟨w.heap.size + 1, 1, none⟩ = some (.slice A' n' c') ∧
    RB W (w.heap.size + 1 + 1) ∧ RB W (w.heap.size + 1 + 1 + 1) ∧ Below w.heap.size w W ∧ W.heap.size = w.heap.size + 4 := by
  refine ⟨_, rfl, ?_, ?_, ?_, ?_, ?_, ?_, ?_, ?_⟩
  · rw [World.cell?_alloc_past _ _ _ (by simp; omega)]; exact old1 0
  · rw [World.cell?_alloc_past _ _ _ (by simp; omega)]; exact old1 1
  · rw [World.cell?_alloc_past _ _ _ (by simp)]; exact old2 0
  · rw [World.cell?_alloc_past _ _ _ (by simp)]; exact old2 1
  · exact (RB.a3 w false none 0 0 55 _ _).below (below_alloc _ _) (by simp)
  · exact ⟨false, none, 0, 0, 55, by
      have := heap_alloc_new (((w.alloc (Obj.cells #[.bool p, .slice A n c] 55)).alloc (Obj.cells #[.bool q, .slice A' n' c'] 55)).alloc (Obj.cells #[.bool false, .slice none 0 0] 55)) (Obj.cells #[.bool false, .slice none 0 0] 55)
      simpa using this⟩
  · exact (below3 w _ _ _).alloc (by simp; omega) _
  · simp

set_option maxRecDepth 100000 in
theorem overR_plain (x y : Int) (u v : Value) (w : World) (hx : ZV w u x) (hy : ZV w v y) (lx : (dig x.natAbs).length ≤ 999999) (ly : (dig y.natAbs).length ≤ 999990) (hy0 : y ≠ 0) (hpl : (decide (x < 0) && decide (0 < x.natAbs % y.natAbs)) = false) :
    Calls Tryz.prog 41 #[u, v] w (RetZZ w (x / y) (x % y)) := by
  obtain ⟨hd1, hd2⟩ := div_plain hy0 hpl
  rw [hd1, hd2]
  clear hd1 hd2
  obtain ⟨A, n, c, rfl, hx', -, -⟩ := hx.open_
  obtain ⟨A', n', c', rfl, hy', -, -⟩ := hy.open_
  clear hx hy
  obtain ⟨p, hp⟩ : ∃ p, p = decide (x < 0) := ⟨_, rfl⟩
  obtain ⟨q, hq⟩ : ∃ q, q = decide (y < 0) := ⟨_, rfl⟩
  rw [← hp] at hpl
  rw [← hp, ← hq]
  obtain ⟨m, hm⟩ : ∃ m, m = x.natAbs := ⟨_, rfl⟩
  obtain ⟨d, hd⟩ : ∃ d, d = y.natAbs := ⟨_, rfl⟩
  rw [← hm] at hx' hpl lx
  rw [← hd] at hy' hpl ly
  rw [← hm, ← hd]
  have hd0 : 0 < d := by omega
  obtain ⟨zq, hzq⟩ : ∃ z, z = sz (p != q) (m / d) := ⟨_, rfl⟩
  obtain ⟨zr, hzr⟩ : ∃ z, z = ((m % d : Nat) : Int) := ⟨_, rfl⟩
  rw [← hzq, ← hzr]
  have Hzq := Lib.hid hzq; clear hzq
  have Hzr := Lib.hid hzr; clear hzr
  clear hp hq hm hd hy0
  obtain ⟨W0, hW0, k10, k11, k20, k21, hR3, hR4, hb0, z0⟩ := four_blocksR w p q A A' n c n' c'
  have hx0 := hx'.below hb0
  have hy0 := hy'.below hb0
  have HW0 := Lib.hid hW0
  have HX0 := Lib.hid hx0; clear hx0 hx'
  have HY0 := Lib.hid hy0; clear hy0 hy'
  have HR3 := Lib.hid hR3; clear hR3
  have HR4 := Lib.hid hR4; clear hR4
  have Hb0 := Lib.hid hb0; clear hb0
  have Hpl := Lib.hid hpl; clear hpl
  have Z0 := Lib.hid z0; clear z0
  rw [hW0] at k10 k11 k20 k21
  clear hW0
  go_enter Tryz.func41, Tryz.ntmps41
  go_wp2_with fail
  rw [← HW0.out] at k10 k11 k20 k21 ⊢
  refine (dividedR_any m d _ _ W0 HX0.out HY0.out lx ly hd0).mono ?_
  rintro e W1 ⟨q1, r1, rfl, hq1, hr1, hb1⟩
  obtain ⟨A3, n3, c3, rfl⟩ := hq1.slice_
  obtain ⟨A4, n4, c4, rfl⟩ := hr1.slice_
  have hn3 := hq1.len
  have hn4 := hr1.len
  have hl3 := hq1.len_le
  have hl4 := hr1.len_le
  have z1 : w.heap.size + 4 ≤ W1.heap.size := by have := hb1.size; have := Z0.out; omega
  have j10 := keepAt hb1 (by have := Z0.out; omega) k10
  have j11 := keepAt hb1 (by have := Z0.out; omega) k11
  have j20 := keepAt hb1 (by have := Z0.out; omega) k20
  have j21 := keepAt hb1 (by have := Z0.out; omega) k21
  have hR3 := HR3.out.below hb1 (by have := Z0.out; omega)
  have hR4 := HR4.out.below hb1 (by have := Z0.out; omega)
  have hb01 := Hb0.out.trans (hb1.mono Hb0.out.size)
  have HR3' := Lib.hid hR3; clear hR3
  have HR4' := Lib.hid hR4; clear hR4
  have HQ1 := Lib.hid hq1; clear hq1
  have HR1 := Lib.hid hr1; clear hr1
  have Hb01 := Lib.hid hb01; clear hb01
  have Hn3 := Lib.hid hn3; clear hn3
  have hpn : p = true → n4 = 0 := by
    rintro rfl
    have h := Hpl.out
    simp at h
    rw [hn4, h, dig_zero]; rfl
  have Hn4 := Lib.hid hn4; clear hn4 hb1 k10 k11 k20 k21 Hpl
  cases p
  · clear hpn
    go_wp2_with fail
    refine (signedR_any q A3 n3 c3 W1 hl3).mono ?_
    rintro e W2 ⟨rfl, hb2⟩
    have HR3a := Lib.hid (HR3'.out.below hb2 (by omega))
    have HR4a := Lib.hid (HR4'.out.below hb2 (by omega))
    have HQ1a := Lib.hid (HQ1.out.below hb2)
    have HR1a := Lib.hid (HR1.out.below hb2)
    have Hb01a := Lib.hid (Hb01.out.trans (hb2.mono (by omega)))
    have z2a : w.heap.size + 4 ≤ W2.heap.size := Nat.le_trans z1 hb2.size
    clear HR3' HR4' HQ1 HR1 Hb01 z1 hb2
    go_wp2_with fail
    refine (signedR_any false A4 n4 c4 W2 hl4).mono ?_
    rintro e W9 ⟨rfl, hb2⟩
    have HR3' := HR3a
    have HR4' := HR4a
    have HQ1 := HQ1a
    have HR1 := HR1a
    have Hb01 := Hb01a
    have z1 := z2a
    rw [Bool.false_and]
    clear HR3a HR4a HQ1a HR1a Hb01a z2a
    have R3 := HR3'.out.below hb2 (by omega)
    have R4 := HR4'.out.below hb2 (by omega)
    obtain ⟨_, _, _, _, g30, g31, g32, g33⟩ := R3.facts
    obtain ⟨_, _, _, _, g40, g41, g42, g43⟩ := R4.facts
    have hz1 : ZV W9 (.agg #[.bool (q && decide (0 < n3)), .slice A3 n3 c3]) zq := ZV.mk (by rw [Hzq.out, Hn3.out, ← sz_neg]; cases q <;> rfl) (by rw [Hzq.out, sz_abs]; exact HQ1.out.below hb2)
    have hz2 : ZV W9 (.agg #[.bool false, .slice A4 n4 c4]) zr := ZV.mk (by rw [Hzr.out]; simp; omega) (by rw [Hzr.out, Int.natAbs_natCast]; exact HR1.out.below hb2)
    obtain ⟨W', hW', f1, f2, f3, f4, hz1', hz2', hbf⟩ := two_res R3 R4 (by omega) (q && decide (0 < n3)) A3 n3 c3 false A4 n4 c4 hz1 hz2 (Hb01.out.trans (hb2.mono (by omega))) (by omega) (by omega)
    have T := R4.far R3 (by omega) (.bool (q && decide (0 < n3))) (.slice A3 n3 c3)
    obtain ⟨_, _, _, _, g50, g51, g52, g53⟩ := T.facts
    have HF := Lib.hid (And.intro hz1' (And.intro hz2' (And.intro hbf (And.intro f1 (And.intro f2 (And.intro f3 f4))))))
    have HW' := Lib.hid hW'
    clear hz1 hz2 hz1' hz2' hbf f1 f2 f3 f4 hW' T R3 R4 hb2
    go_wp2
    rw [← HW'.out]
    obtain ⟨hz1, hz2, hbf, f1, f2, f3, f4⟩ := HF.out
    exact bodyPost_ret (v := .tuple #[.agg #[.bool (q && decide (0 < n3)), .slice A3 n3 c3], .agg #[.bool false, .slice A4 n4 c4]]) (by simp [results, Tryz.results41, go_sem, f1, f2, f3, f4]) rfl ⟨_, _, _, _, _, _, _, _, rfl, hz1, hz2, hbf⟩
  · obtain rfl := hpn rfl
    clear hpn
    go_wp2_with fail
    refine (signedR_any (!q) A3 n3 c3 W1 hl3).mono ?_
    rintro e W2 ⟨rfl, hb2⟩
    have HR3a := Lib.hid (HR3'.out.below hb2 (by omega))
    have HR4a := Lib.hid (HR4'.out.below hb2 (by omega))
    have HQ1a := Lib.hid (HQ1.out.below hb2)
    have HR1a := Lib.hid (HR1.out.below hb2)
    have Hb01a := Lib.hid (Hb01.out.trans (hb2.mono (by omega)))
    have z2a : w.heap.size + 4 ≤ W2.heap.size := Nat.le_trans z1 hb2.size
    clear HR3' HR4' HQ1 HR1 Hb01 z1 hb2
    go_wp2_with fail
    refine (signedR_any false A4 0 c4 W2 hl4).mono ?_
    rintro e W9 ⟨rfl, hb2⟩
    have HR3' := HR3a
    have HR4' := HR4a
    have HQ1 := HQ1a
    have HR1 := HR1a
    have Hb01 := Hb01a
    have z1 := z2a
    rw [Bool.false_and]
    clear HR3a HR4a HQ1a HR1a Hb01a z2a
    have R3 := HR3'.out.below hb2 (by omega)
    have R4 := HR4'.out.below hb2 (by omega)
    obtain ⟨_, _, _, _, g30, g31, g32, g33⟩ := R3.facts
    obtain ⟨_, _, _, _, g40, g41, g42, g43⟩ := R4.facts
    have hz1 : ZV W9 (.agg #[.bool (!q && decide (0 < n3)), .slice A3 n3 c3]) zq := ZV.mk (by rw [Hzq.out, Hn3.out, ← sz_neg]; cases q <;> rfl) (by rw [Hzq.out, sz_abs]; exact HQ1.out.below hb2)
    have hz2 : ZV W9 (.agg #[.bool false, .slice A4 0 c4]) zr := ZV.mk (by rw [Hzr.out]; simp; omega) (by rw [Hzr.out, Int.natAbs_natCast]; exact HR1.out.below hb2)
    obtain ⟨W', hW', f1, f2, f3, f4, hz1', hz2', hbf⟩ := two_res R3 R4 (by omega) (!q && decide (0 < n3)) A3 n3 c3 false A4 0 c4 hz1 hz2 (Hb01.out.trans (hb2.mono (by omega))) (by omega) (by omega)
    have T := R4.far R3 (by omega) (.bool (!q && decide (0 < n3))) (.slice A3 n3 c3)
    obtain ⟨_, _, _, _, g50, g51, g52, g53⟩ := T.facts
    have HF := Lib.hid (And.intro hz1' (And.intro hz2' (And.intro hbf (And.intro f1 (And.intro f2 (And.intro f3 f4))))))
    have HW' := Lib.hid hW'
    clear hz1 hz2 hz1' hz2' hbf f1 f2 f3 f4 hW' T R3 R4 hb2
    go_wp2
    rw [← HW'.out]
    obtain ⟨hz1, hz2, hbf, f1, f2, f3, f4⟩ := HF.out
    exact bodyPost_ret (v := .tuple #[.agg #[.bool (!q && decide (0 < n3)), .slice A3 n3 c3], .agg #[.bool false, .slice A4 0 c4]]) (by simp [results, Tryz.results41, go_sem, f1, f2, f3, f4]) rfl ⟨_, _, _, _, _, _, _, _, rfl, hz1, hz2, hbf⟩

set_option maxRecDepth 100000 in
theorem overR_up (x y : Int) (u v : Value) (w : World) (hx : ZV w u x) (hy : ZV w v y) (lx : (dig x.natAbs).length ≤ 999999) (ly : (dig y.natAbs).length ≤ 999990) (hy0 : y ≠ 0) (hneg : x < 0) (hpl : 0 < x.natAbs % y.natAbs) :
    Calls Tryz.prog 41 #[u, v] w (RetZZ w (x / y) (x % y)) := by
  obtain ⟨hd1, hd2⟩ := div_up hy0 hneg hpl
  rw [hd1, hd2]
  clear hd1 hd2
  obtain ⟨A, n, c, rfl, hx', -, -⟩ := hx.open_
  obtain ⟨A', n', c', rfl, hy', -, -⟩ := hy.open_
  clear hx hy
  rw [show decide (x < 0) = true by simp; exact hneg]
  obtain ⟨q, hq⟩ : ∃ q, q = decide (y < 0) := ⟨_, rfl⟩
  rw [← hq]
  obtain ⟨m, hm⟩ : ∃ m, m = x.natAbs := ⟨_, rfl⟩
  obtain ⟨d, hd⟩ : ∃ d, d = y.natAbs := ⟨_, rfl⟩
  rw [← hm] at hx' hpl lx
  rw [← hd] at hy' hpl ly
  rw [← hm, ← hd]
  have hd0 : 0 < d := by omega
  have hql : (dig (m / d)).length ≤ 1000000 := by have := dig_len_mono (Nat.div_le_self m d); omega
  have hrd : m % d ≤ d := Nat.le_of_lt (Nat.mod_lt _ hd0)
  obtain ⟨zq, hzq⟩ : ∃ z, z = sz (true != q) (m / d + 1) := ⟨_, rfl⟩
  obtain ⟨zr, hzr⟩ : ∃ z, z = ((d - m % d : Nat) : Int) := ⟨_, rfl⟩
  rw [← hzq, ← hzr]
  have Hzq := Lib.hid hzq; clear hzq
  have Hzr := Lib.hid hzr; clear hzr
  clear hq hm hd hy0 hneg
  obtain ⟨W0, hW0, k10, k11, k20, k21, hR3, hR4, hb0, z0⟩ := four_blocksR w true q A A' n c n' c'
  have hx0 := hx'.below hb0
  have hy0 := hy'.below hb0
  have HW0 := Lib.hid hW0
  have HX0 := Lib.hid hx0; clear hx0 hx'
  have HY0 := Lib.hid hy0; clear hy0 hy'
  have HR3 := Lib.hid hR3; clear hR3
  have HR4 := Lib.hid hR4; clear hR4
  have Hb0 := Lib.hid hb0; clear hb0
  have Hpl := Lib.hid hpl; clear hpl
  have Hrd := Lib.hid hrd; clear hrd
  have Hql := Lib.hid hql; clear hql
  have Z0 := Lib.hid z0; clear z0
  rw [hW0] at k10 k11 k20 k21
  clear hW0
  go_enter Tryz.func41, Tryz.ntmps41
  go_wp2_with fail
  rw [← HW0.out] at k10 k11 k20 k21 ⊢
  refine (dividedR_any m d _ _ W0 HX0.out HY0.out lx ly hd0).mono ?_
  rintro e W1 ⟨q1, r1, rfl, hq1, hr1, hb1⟩
  obtain ⟨A3, n3, c3, rfl⟩ := hq1.slice_
  obtain ⟨A4, n4, c4, rfl⟩ := hr1.slice_
  have hn4 := hr1.len
  have hl3 := hq1.len_le
  have hl4 := hr1.len_le
  have hn40 : 0 < n4 := by rw [hn4]; exact dig_len_pos.2 Hpl.out
  have z1 : w.heap.size + 4 ≤ W1.heap.size := by have := hb1.size; have := Z0.out; omega
  have j10 := keepAt hb1 (by have := Z0.out; omega) k10
  have j20 := keepAt hb1 (by have := Z0.out; omega) k20
  have j21 := keepAt hb1 (by have := Z0.out; omega) k21
  have hb01 := Hb0.out.trans (hb1.mono Hb0.out.size)
  have HR3' := Lib.hid (HR3.out.below hb1 (by have := Z0.out; omega))
  have HR4' := Lib.hid (HR4.out.below hb1 (by have := Z0.out; omega))
  have HY1 := Lib.hid (HY0.out.below hb1)
  have HQ1 := Lib.hid hq1; clear hq1
  have HR1 := Lib.hid hr1; clear hr1
  have Hb01 := Lib.hid hb01; clear hb01 hn4 hb1 k10 k11 k20 k21 Hpl HX0 HY0 HR3 HR4 Hb0 Z0
  go_wp2_with fail
  have hone : Wd (W1.alloc (Obj.cells #[.int .u32 1] 66)) (.slice (some ⟨W1.heap.size, 0, none⟩) 1 1) (dig 1) := by
    have e : dig 1 = [1] := by rw [dig_pos (by omega), dig_zero]
    rw [e]
    exact Wd.new W1 [1] (Ok.mk (by omega) Ok.nil) _ _ 1 1 rfl (by omega) (by omega) (fun j hj => by
      match j, hj with
      | 0, _ => simp)
  have hba := below_alloc W1 (Obj.cells #[.int .u32 1] 66)
  refine (plusR_any (m / d) 1 _ _ _ (HQ1.out.below hba) hone Hql.out (by rw [dig_pos (by omega), dig_zero]; simp)).mono ?_
  rintro e W2 ⟨q2, rfl, hq2, hb2⟩
  obtain ⟨A5, n5, c5, rfl⟩ := hq2.slice_
  have hn5 := hq2.len
  have hl5 := hq2.len_le
  have hb12 : Below W1.heap.size W1 W2 := hba.trans (hb2.mono hba.size)
  have i10 := keepAt hb12 (by omega) j10
  have i20 := keepAt hb12 (by omega) j20
  have i21 := keepAt hb12 (by omega) j21
  have HR5 := Lib.hid (HR3'.out.below hb12 (by omega))
  have HR6 := Lib.hid (HR4'.out.below hb12 (by omega))
  have HY2 := Lib.hid (HY1.out.below hb12)
  have HRr := Lib.hid (HR1.out.below hb12)
  have Hb02 := Lib.hid (Hb01.out.trans (hb12.mono Hb01.out.size))
  have z2 : w.heap.size + 4 ≤ W2.heap.size := Nat.le_trans z1 hb12.size
  have HQ2 := Lib.hid hq2; clear hq2
  have Hn5 := Lib.hid hn5; clear hn5
  clear hone hba hb2 hb12 j10 j20 j21 HR3' HR4' HY1 HR1 Hb01 z1 HQ1
  go_wp2_with fail
  refine (lessR_any d (m % d) _ _ _ HY2.out HRr.out (by omega) Hrd.out).mono ?_
  rintro e W3 ⟨r3, rfl, hr3, hb3⟩
  obtain ⟨A6, n6, c6, rfl⟩ := hr3.slice_
  have j10 := keepAt hb3 (by omega) i10
  have j20 := keepAt hb3 (by omega) i20
  have HR3' := Lib.hid (HR5.out.below hb3 (by omega))
  have HR4' := Lib.hid (HR6.out.below hb3 (by omega))
  have HQ1 := Lib.hid (HQ2.out.below hb3)
  have Hb01 := Lib.hid (Hb02.out.trans (hb3.mono Hb02.out.size))
  have z1 : w.heap.size + 4 ≤ W3.heap.size := Nat.le_trans z2 hb3.size
  have HR1 := Lib.hid hr3
  clear hr3 hb3 i10 i20 i21 HR5 HR6 HY2 HRr Hb02 z2 HQ2
  go_wp2_with fail
  refine (signedR_any (!q) A5 n5 c5 W3 hl5).mono ?_
  rintro e W4 ⟨rfl, hb2⟩
  have HR3a := Lib.hid (HR3'.out.below hb2 (by omega))
  have HR4a := Lib.hid (HR4'.out.below hb2 (by omega))
  have HQ1a := Lib.hid (HQ1.out.below hb2)
  have HR1a := Lib.hid (HR1.out.below hb2)
  have Hb01a := Lib.hid (Hb01.out.trans (hb2.mono (by omega)))
  have z2a : w.heap.size + 4 ≤ W4.heap.size := Nat.le_trans z1 hb2.size
  have hl6 := HR1.out.len_le; clear HR3' HR4' HQ1 HR1 Hb01 z1 hb2
  go_wp2_with fail
  refine (signedR_any false A6 n6 c6 W4 hl6).mono ?_
  rintro e W9 ⟨rfl, hb2⟩
  have HR3' := HR3a
  have HR4' := HR4a
  have HQ1 := HQ1a
  have HR1 := HR1a
  have Hb01 := Hb01a
  have z1 := z2a
  rw [Bool.false_and]
  clear HR3a HR4a HQ1a HR1a Hb01a z2a
  have R3 := HR3'.out.below hb2 (by omega)
  have R4 := HR4'.out.below hb2 (by omega)
  obtain ⟨_, _, _, _, g30, g31, g32, g33⟩ := R3.facts
  obtain ⟨_, _, _, _, g40, g41, g42, g43⟩ := R4.facts
  have hz1 : ZV W9 (.agg #[.bool (!q && decide (0 < n5)), .slice A5 n5 c5]) zq := ZV.mk (by rw [Hzq.out, Hn5.out, ← sz_neg] <;> cases q <;> rfl) (by rw [Hzq.out, sz_abs]; exact HQ1.out.below hb2)
  have hz2 : ZV W9 (.agg #[.bool false, .slice A6 n6 c6]) zr := ZV.mk (by rw [Hzr.out]; simp) (by rw [Hzr.out, Int.natAbs_natCast]; exact HR1.out.below hb2)
  obtain ⟨W', hW', f1, f2, f3, f4, hz1', hz2', hbf⟩ := two_res R3 R4 (by omega) (!q && decide (0 < n5)) A5 n5 c5 false A6 n6 c6 hz1 hz2 (Hb01.out.trans (hb2.mono (by omega))) (by omega) (by omega)
  have T := R4.far R3 (by omega) (.bool (!q && decide (0 < n5))) (.slice A5 n5 c5)
  obtain ⟨_, _, _, _, g50, g51, g52, g53⟩ := T.facts
  have HF := Lib.hid (And.intro hz1' (And.intro hz2' (And.intro hbf (And.intro f1 (And.intro f2 (And.intro f3 f4))))))
  have HW' := Lib.hid hW'
  clear hz1 hz2 hz1' hz2' hbf f1 f2 f3 f4 hW' T R3 R4 hb2
  go_wp2
  rw [← HW'.out]
  obtain ⟨hz1, hz2, hbf, f1, f2, f3, f4⟩ := HF.out
  exact bodyPost_ret (v := .tuple #[.agg #[.bool (!q && decide (0 < n5)), .slice A5 n5 c5], .agg #[.bool false, .slice A6 n6 c6]]) (by simp [results, Tryz.results41, go_sem, f1, f2, f3, f4]) rfl ⟨_, _, _, _, _, _, _, _, rfl, hz1, hz2, hbf⟩

/-- ref Over -/
theorem overR_any (x y : Int) (u v : Value) (w : World) (hx : ZV w u x) (hy : ZV w v y) (lx : (dig x.natAbs).length ≤ 999999) (ly : (dig y.natAbs).length ≤ 999990) (hy0 : y ≠ 0) :
    Calls Tryz.prog 41 #[u, v] w (RetZZ w (x / y) (x % y)) := by
  by_cases h : x < 0 ∧ 0 < x.natAbs % y.natAbs
  · exact overR_up x y u v w hx hy lx ly hy0 h.1 h.2
  · refine overR_plain x y u v w hx hy lx ly hy0 ?_
    by_cases hn : x < 0
    · have : ¬ 0 < x.natAbs % y.natAbs := fun h' => h ⟨hn, h'⟩
      simp [hn]; omega
    · simp [hn]
end Go.Proofs.YtmlopkkbgpfdnaaGreatDoor
namespace Go.Proofs.YtmlopkkbgpfdnaaGreatDoor
open Go.RowKit

set_option maxRecDepth 100000 in
/-- Exactly -/
theorem exactlyR_any (x y : Int) (u v : Value) (w : World) (hx : ZV w u x) (hy : ZV w v y) (lx : (dig x.natAbs).length ≤ 999999) (ly : (dig y.natAbs).length ≤ 999990) (hy0 : y ≠ 0) :
    Calls Tryz.prog 53 #[u, v] w (RetZ w (x / y)) := by
  obtain ⟨A, n, c, rfl, -, -, -⟩ := hx.open_
  obtain ⟨A', n', c', rfl, -, -, -⟩ := hy.open_
  obtain ⟨p, hp⟩ : ∃ p, p = decide (x < 0) := ⟨_, rfl⟩
  obtain ⟨q, hq⟩ : ∃ q, q = decide (y < 0) := ⟨_, rfl⟩
  rw [← hp] at hx ⊢
  rw [← hq] at hy ⊢
  clear hp hq
  obtain ⟨W1, hW1⟩ : ∃ W1, W1 = ((w.alloc (.cells #[.bool p, .slice A n c] 55)).alloc (.cells #[.bool q, .slice A' n' c'] 55)).alloc (.cells #[.bool false, .slice none 0 0] 55) := ⟨_, rfl⟩
  have e1 : Ext w W1 := by rw [hW1]; exact (((Ext.refl w).alc _).alc _).alc _
  have hd := overR_any x y _ _ W1 (hx.ext e1) (hy.ext e1) lx ly hy0
  have hR : RB W1 (w.heap.size + 1 + 1) := by
    have := RB.c1 ((w.alloc (.cells #[.bool p, .slice A n c] 55)).alloc (.cells #[.bool q, .slice A' n' c'] 55)) false none 0 0 55
    rw [World.size_alloc, World.size_alloc] at this
    rw [hW1]; exact this
  have zl : W1.heap.size = w.heap.size + 1 + 1 + 1 := by rw [hW1]; simp
  have zl2 : w.heap.size + 1 + 1 + 1 ≤ W1.heap.size := by omega
  have HD := Lib.hid hd; have HR := Lib.hid hR; have E1 := Lib.hid e1; have HW := Lib.hid hW1
  clear hd hR e1 hx hy hW1 zl
  go_enter Tryz.func53, Tryz.ntmps53
  go_wp2_with fail
  rw [← HW.out]
  clear HW
  refine HD.out.mono ?_
  rintro e V h
  obtain ⟨b1, A1, n1, c1, b2, A2, n2, c2, rfl, z1, z2, hb⟩ := zz_shape h
  have R3 := HR.out.ext hb
  have hlt := R3.lt
  obtain ⟨_, _, _, _, g0, g1, f0, f1⟩ := (R3.ext (((Ext.refl V).alc (.cells #[.bool b1, .slice A1 n1 c1] 55)).alc (.cells #[.bool b2, .slice A2 n2 c2] 55))).facts
  have hz := (((z1.below (below1 V (.cells #[.bool b1, .slice A1 n1 c1] 55))).below (below1 _ (.cells #[.bool b2, .slice A2 n2 c2] 55))).rb (R3.ext (((Ext.refl V).alc (.cells #[.bool b1, .slice A1 n1 c1] 55)).alc (.cells #[.bool b2, .slice A2 n2 c2] 55))) (.bool b1) (.slice A1 n1 c1))
  have hx : Ext w (((V.alloc (.cells #[.bool b1, .slice A1 n1 c1] 55)).alloc (.cells #[.bool b2, .slice A2 n2 c2] 55)).setCell ⟨w.heap.size + 1 + 1, 0, none⟩ (.bool b1)) := (((E1.out.trans hb).alc _).alc _).sc (by omega)
  have s0 := (R3.ext (((Ext.refl V).alc (.cells #[.bool b1, .slice A1 n1 c1] 55)).alc (.cells #[.bool b2, .slice A2 n2 c2] 55))).set0 b1 (.slice A1 n1 c1)
  have s1 := (R3.ext (((Ext.refl V).alc (.cells #[.bool b1, .slice A1 n1 c1] 55)).alc (.cells #[.bool b2, .slice A2 n2 c2] 55))).set1 b1 (.slice A1 n1 c1)
  have HZ1 := Lib.hid hz; have HX := Lib.hid hx; have S0 := Lib.hid s0; have S1 := Lib.hid s1
  clear hz hx s0 s1 hb z1 z2 R3 h
  go_wp2
  have s0 := S0.out; have s1 := S1.out
  exact bodyPost_ret (v := .agg #[.bool b1, .slice A1 n1 c1]) (by simp [results, Tryz.results53, go_sem, s0, s1]) rfl ⟨_, rfl, HZ1.out, HX.out.sc (by omega)⟩
end Go.Proofs.YtmlopkkbgpfdnaaGreatDoor
namespace Go.Proofs.YtmlopkkbgpfdnaaGreatDoor
open Go.RowKit

end Go.Proofs.YtmlopkkbgpfdnaaGreatDoor
