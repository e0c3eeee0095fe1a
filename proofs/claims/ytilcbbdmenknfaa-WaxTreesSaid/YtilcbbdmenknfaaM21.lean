/- Walks: the reference's Sides. · Walks: the reference's Cut. -/
import Derived.Test.YtilcbbdmenknfaaM20
import Derived.Test.YtilcbbdmenknfaaM14
namespace Go.Proofs.Ytilcbbdmenknfaa
open Go.RowKit

theorem shl_twelve (r : Nat) (h : r ≤ 12) : wrap64 ((2 : Int) ^ r) = ((2 ^ r : Nat) : Int) := by
  have h1 : 2 ^ r ≤ 4096 := Nat.le_trans (Nat.pow_le_pow_right (by omega) h) (by decide)
  rw [pow_shl]
  generalize 2 ^ r = P at *
  unfold wrap64
  omega

/-- what the first K sides have shown -/
structure Rb (G : Nw) (N K : Nat) (β : Int) : Prop where
  lo : 0 ≤ β
  hi : β ≤ 1152921504606846976
  le : ∀ k, k < K → isSdB N (bnum N k) = true → β ≤ G.ct (bnum N k)
  has : (β = 1152921504606846976 ∧ ∀ k, k < K → isSdB N (bnum N k) = false) ∨ ∃ k, k < K ∧ isSdB N (bnum N k) = true ∧ G.ct (bnum N k) = β
theorem Rb.start (G : Nw) (N : Nat) : Rb G N 0 1152921504606846976 := ⟨by omega, by omega, fun k hk => by omega, .inl ⟨rfl, fun k hk => by omega⟩⟩
theorem Rb.no {G : Nw} {N K : Nat} {β : Int} (h : Rb G N K β) (hn : isSdB N (bnum N K) = false) : Rb G N (K + 1) β :=
  ⟨h.lo, h.hi, fun k hk hs => by
    by_cases e : k = K
    · subst e; rw [hn] at hs; cases hs
    · exact h.le k (by omega) hs, by
    rcases h.has with ⟨h1, h2⟩ | ⟨k, h1, h2, h3⟩
    · exact .inl ⟨h1, fun k hk => by
        by_cases e : k = K
        · subst e; exact hn
        · exact h2 k (by omega)⟩
    · exact .inr ⟨k, by omega, h2, h3⟩⟩
theorem Rb.more {G : Nw} {N K : Nat} {β : Int} (h : Rb G N K β) (hn : β < G.ct (bnum N K)) (hlt : G.ct (bnum N K) < 1152921504606846976) : Rb G N (K + 1) β :=
  ⟨h.lo, h.hi, fun k hk hs => by
    by_cases e : k = K
    · subst e; omega
    · exact h.le k (by omega) hs, by
    rcases h.has with ⟨h1, h2⟩ | ⟨k, h1, h2, h3⟩
    · omega
    · exact .inr ⟨k, by omega, h2, h3⟩⟩
theorem Rb.new {G : Nw} {N K : Nat} {β : Int} (h : Rb G N K β) (hs : isSdB N (bnum N K) = true) (hle : G.ct (bnum N K) ≤ β) (h0 : 0 ≤ G.ct (bnum N K)) : Rb G N (K + 1) (G.ct (bnum N K)) :=
  ⟨h0, by have := h.hi; omega, fun k hk hs => by
    by_cases e : k = K
    · subst e; omega
    · have := h.le k (by omega) hs; omega, .inr ⟨K, by omega, hs, rfl⟩⟩
theorem Rb.mc {G : Nw} {N : Nat} {β : Int} (hN : 2 ≤ N) (hin : G.In N) (h : Rb G N (2 ^ N) β) : Mc G 0 (N - 1) β := by
  have hp : 2 ^ N = 2 ^ (N - 1) + 2 ^ (N - 1) := by rw [show N = N - 1 + 1 by omega, Nat.pow_succ]; simp only [Nat.add_sub_cancel]; omega
  have hp2 : 2 ^ (N - 1) = 2 * 2 ^ (N - 2) := by rw [show N - 1 = N - 2 + 1 by omega, Nat.pow_succ]; omega
  have key : ∀ S, Nw.Sd 0 (N - 1) S → ∃ k, k < 2 ^ N ∧ isSdB N (bnum N k) = true ∧ G.ct (bnum N k) = G.ct S := by
    intro S hS
    obtain ⟨j, hj, hjS⟩ := numb_ex hN hS
    refine ⟨2 ^ (N - 1) + 2 * j, by omega, isSdB_iff.2 ((bnum_sd hN (by omega)).2 ⟨by omega, by omega⟩), G.ct_congr hin fun v hv => by rw [bnum_numb hN hj hv, hjS v hv]⟩
  refine ⟨?_, fun S hS => ?_⟩
  · rcases h.has with ⟨h1, h2⟩ | ⟨k, h1, h2, h3⟩
    · obtain ⟨k, a1, a2, -⟩ := key (numb N 0) (numb_sd 0 hN)
      rw [h2 k a1] at a2; cases a2
    · exact ⟨_, isSdB_iff.1 h2, h3⟩
  · obtain ⟨k, a1, a2, a3⟩ := key S hS
    rw [← a3]
    exact h.le k a1 a2
theorem own_slice {w : World} {base : Nat} {e : TypeId} {size n : Nat} {v : Value} {xs : List Value} (h : w.ownsRow base e size v n xs) : ∃ A m c, v = .slice A m c := by
  obtain ⟨-, ⟨rfl, -⟩ | ⟨g, cap, cur, rfl, -⟩⟩ := h
  · exact ⟨_, _, _, rfl⟩
  · exact ⟨_, _, _, rfl⟩

set_option maxHeartbeats 4000000 in
set_option maxRecDepth 100000 in
theorem sidesR_any (N : Int) (a : Ar) (AV : Value) (W : World) (hA : Al W AV a) :
    Calls Try.prog 29 #[.agg #[.int .i64 N, AV]] W fun e W' => ∃ (F : Value) (er : Int), e = .returned (.tuple #[F, .int .i64 er]) ∧ Ext W W' ∧
      ((vNet N a = false ∧ F = .slice none 0 0 ∧ er = 2) ∨ (vNet N a = true ∧ 12 < N ∧ F = .slice none 0 0 ∧ er = 3) ∨
        (vNet N a = true ∧ N ≤ 12 ∧ er = 0 ∧ ∃ v, Mc a.nw 0 (N.toNat - 1) v ∧ Rws W' F N.toNat (rmins a.nw N.toNat v (2 ^ N.toNat)).length (fun i => bnum N.toNat ((rmins a.nw N.toNat v (2 ^ N.toNat)).getD i 0)))) := by
  have HA := Lib.hid hA
  obtain ⟨A, c, rfl, hac, hcm, -⟩ := hA
  go_enter Try.func29, Try.ntmps29
  go_upto_region 1 with fail
  have bb := al1 W (.cells #[.int .i64 N, .slice A a.n c] 24)
  have hh := heap_alloc_new W (.cells #[.int .i64 N, .slice A a.n c] 24)
  have zz : W.heap.size < (W.alloc (.cells #[.int .i64 N, .slice A a.n c] 24)).heap.size := by simp
  generalize W.alloc (.cells #[.int .i64 N, .slice A a.n c] 24) = W1 at *
  have HB : Hid (Ext W W1) := Lib.hid bb
  obtain ⟨m0, m1, m2, m3⟩ := two hh
  have HM := Lib.hid (And.intro m0 m1)
  clear bb hh m2 m3
  go_wp2_with fail
  refine (validR_any N a _ _ (HA.out.ext HB.out)).mono ?_
  rintro e w1 ⟨rfl, hx⟩
  have HX : Hid (Ext W1 w1) := Lib.hid hx
  replace m0 := keepAt hx zz m0
  replace m1 := keepAt hx zz m1
  clear hx
  cases hv : vNet N a
  · have HV := Lib.hid hv; clear hv
    go_wp2
    refine bodyPost_ret (v := .tuple #[.slice none 0 0, .int .i64 2]) (by simp [results, Try.results29, go_sem]) rfl ⟨_, 2, rfl, HB.out.trans HX.out, .inl ⟨HV.out, rfl, rfl⟩⟩
  · obtain ⟨m, rfl, hm2, hm40, hn, hok⟩ := vNet_ok hv
    have HOK := Lib.hid hok; have HV := Lib.hid hv
    clear hv hok
    by_cases h12 : m ≤ 12
    · have h12' : ¬ (12 : Int) < m := by omega
      have hm1 : ∀ w, (Instr.makeSlice 40 (.int .i64 (m : Int)) (.int .i64 (m : Int))).run Try.prog w = .ok (.slice (some ⟨w.heap.size, 0, none⟩) m m) (w.alloc (.cells (Array.ofFn fun _ : Fin m => .bool false) 4)) := fun w => make_one 40 4 _ 1 Try.underlying40 info4 rfl (by omega) m (by omega) w
      obtain ⟨P, hP⟩ : ∃ P, P = 2 ^ m := ⟨_, rfl⟩
      have hsh : wrap64 ((2 : Int) ^ m) = (P : Int) := by rw [shl_twelve m h12, hP]
      have hP2 : P ≤ 4096 := by rw [hP]; exact Nat.le_trans (Nat.pow_le_pow_right (by omega) h12) (by decide)
      have HPP := Lib.hid hP
      clear hP
      have zw1 := Nat.lt_of_lt_of_le zz HX.out.size
      have hle1 := HX.out.size
      obtain ⟨i0, hi, hz0, hz1, hz2⟩ := info_parts info40
      have HI := Lib.hid (And.intro hi (And.intro hz0 (And.intro hz1 hz2)))
      clear hi hz0 hz1 hz2
      go_wp2_with fail
      rw [hsh]
      clear m0 m1 hsh
      go_loopw [4, 5, 20] (fun q be i wr => ∃ (k : Nat) (β : Int), i = .int .i64 k ∧ k ≤ P ∧ be = .int .i64 β ∧ Hid (Rb a.nw m k β ∧ Sdb (bnum m) wr w1.heap.size q m (rmins a.nw m β k) ∧ Ext W1 wr ∧ w1.heap.size ≤ wr.heap.size)) (fun _ _ i _ => P - (intOf i).toNat)
      case atStart => exact ⟨0, _, rfl, Nat.zero_le _, rfl, Lib.hid ⟨Rb.start _ _, Sdb.nil _ _ _ _, HX.out, Nat.le_refl _⟩⟩
      case round =>
        obtain ⟨k, β, rfl, hk, rfl, hin⟩ := hrel
        have m0 := keepAt hin.out.2.2.1 zz HM.out.1
        have m1 := keepAt hin.out.2.2.1 zz HM.out.2
        have zwr := Nat.lt_of_lt_of_le zz hin.out.2.2.1.size
        by_cases hlt : k < P
        · have hkP : k < 2 ^ m := by rw [← HPP.out]; exact hlt
          have HKP := Lib.hid hkP; clear hkP
          have hk2 : k < 4096 := by omega
          obtain ⟨wr0, hwr0⟩ : ∃ w, w = wr := ⟨_, rfl⟩
          rw [← hwr0] at hin m0 m1 zwr ⊢
          clear hwr0
          obtain ⟨g, hg⟩ : ∃ g, g = wr0.heap.size := ⟨_, rfl⟩
          have y1 : BB (wr0.alloc (.cells (Array.ofFn fun _ : Fin m => Value.bool false) 4)) g m (fun _ => false) := by rw [hg]; exact heap_alloc_new wr0 _
          have e1 : Ext wr0 (wr0.alloc (.cells (Array.ofFn fun _ : Fin m => Value.bool false) 4)) := Ext.alc (Ext.refl _) _
          have Y1 := Lib.hid (And.intro y1 e1)
          have HGG := Lib.hid hg
          clear y1 e1
          go_wp2_with fail
          rw [← hg]
          clear hg
          generalize wr0.alloc (.cells (Array.ofFn fun _ : Fin m => Value.bool false) 4) = w2 at *
          go_loopw [28] (fun i wr => ∃ v : Nat, i = .int .i64 v ∧ v ≤ m ∧ Hid (BB wr g m (fun u => if u < v then bnum m k u else false) ∧ Ext wr0 wr)) (fun i _ => m - (intOf i).toNat)
          case atStart => exact ⟨0, rfl, Nat.zero_le _, Lib.hid ⟨Bk.congr Y1.out.1 (fun j _ => by simp), Y1.out.2⟩⟩
          case round =>
            obtain ⟨v, rfl, hv2, hin2⟩ := hrel
            have n0 := keepAt hin2.out.2 zwr m0
            by_cases hlt2 : v < m
            · have cv := Bk.cell hin2.out.1 hlt2
              have fv := Bk.free hin2.out.1 v
              obtain ⟨sh, hsh⟩ : ∃ sh : Nat, sh = m - 1 - v := ⟨_, rfl⟩
              have hsub : (m : Int) - 1 - v = sh := by omega
              have hsh2 : sh ≤ 12 := by omega
              have HS := Lib.hid hsh
              clear hsh
              obtain ⟨q, hq⟩ : ∃ q, q = decide (k / 2 ^ sh % 2 = 1) := ⟨_, rfl⟩
              have hbit : (bits BinOp.and IntKind.i64 ((k : Int) / 2 ^ sh) 1 == 1) = q := by
                have h1 : ((k : Int) / 2 ^ sh) = ((k / 2 ^ sh : Nat) : Int) := by rw [Int.natCast_ediv, Int.natCast_pow]; rfl
                have h2 : k / 2 ^ sh < 1000000 := Nat.lt_of_le_of_lt (Nat.div_le_self _ _) (by omega)
                rw [h1, bits_and1 _ h2, hq]
                exact Bool.eq_iff_iff.2 (by simp; omega)
              have HQ := Lib.hid hq; have HBIT := Lib.hid hbit
              have y := BB.set_ hin2.out.1 v q
              have Y := Lib.hid y
              clear hq hbit y
              go_wp2
              rw [HBIT.out]
              go_roundw
              case rel =>
                refine ⟨v + 1, by go_num, by omega, Lib.hid ⟨Bk.congr Y.out (fun j hj => ?_), hin2.out.2.sc (by have := HGG.out; omega)⟩⟩
                congr 1
                by_cases e : j = v
                · subst e; rw [up_self]; dsimp only; rw [if_pos (by omega)]; unfold bnum; rw [HQ.out, HS.out]
                · rw [up_ne _ _ e]; dsimp only
                  by_cases e2 : j < v
                  · rw [if_pos e2, if_pos (by omega)]
                  · rw [if_neg e2, if_neg (by omega)]
              case measure => simp [intOf]; omega
            · obtain rfl : v = m := by omega
              have n1 := keepAt hin2.out.2 zwr m1
              obtain ⟨w3, hw3⟩ : ∃ w, w = wr := ⟨_, rfl⟩
              rw [← hw3] at hin2 n0 n1 ⊢
              clear hw3 m0 m1
              have zw3 : W.heap.size < w3.heap.size := Nat.lt_of_lt_of_le zwr hin2.out.2.size
              have hbb : BB w3 g v (bnum v k) := Bk.congr hin2.out.1 fun j hj => by dsimp only; rw [if_pos hj]
              have HBB := Lib.hid hbb
              have HX3 : Hid (Ext W1 w3) := Lib.hid (hin.out.2.2.1.trans hin2.out.2)
              have HS3 := Lib.hid (And.intro hin.out.1 (And.intro (hin.out.2.1.ext hin2.out.2) (Nat.le_trans hin.out.2.2.2 hin2.out.2.size)))
              clear hbb hin hin2 Y1
              go_wp2_with fail
              refine (sideR_any a v (bnum v k) _ _ _ (HA.out.ext (HB.out.trans HX3.out)) (BB.bl HBB.out (by omega)) HOK.out (by omega) hm2 (by omega)).mono ?_
              rintro e w5 ⟨rfl, hx⟩
              have HX5 : Hid (Ext W1 w5) := Lib.hid (HX3.out.trans hx)
              have HB5 := Lib.hid (HBB.out.ext hx)
              have HS5 := Lib.hid (And.intro HS3.out.1 (And.intro (HS3.out.2.1.ext hx) (Nat.le_trans HS3.out.2.2 hx.size)))
              obtain ⟨y, hy⟩ : ∃ y, y = a.nw.ct (bnum v k) := ⟨_, rfl⟩
              obtain ⟨ok, hok⟩ : ∃ ok, ok = isSdB v (bnum v k) := ⟨_, rfl⟩
              have hyb : 0 ≤ y ∧ y ≤ 1000000000 := by
                have h1 : y ≤ a.nw.m * 1000000 := by
                  rw [hy]; refine sm_const_le fun q hq => ?_
                  split
                  · exact HOK.out.cM q hq
                  · omega
                have h2 : 0 ≤ y := by
                  rw [hy]; refine sm_nonneg fun q hq => ?_
                  split
                  · exact HOK.out.c0 q hq
                  · omega
                have h3 : a.nw.m = a.n := rfl
                rw [h3] at h1
                omega
              rw [← hy, ← hok]
              have HY := Lib.hid (And.intro hy hok)
              clear hx n0 n1 hy hok HBB HS3 HX3
              cases ok
              · clear hyb
                go_wp2
                go_roundw
                case rel => exact ⟨k + 1, β, by go_num, by omega, rfl, Lib.hid ⟨HS5.out.1.no HY.out.2.symm, by rw [rmins_succ, if_neg (fun h => by rw [← HY.out.2] at h; cases h.1), List.append_nil]; exact HS5.out.2.1, HX5.out, HS5.out.2.2⟩⟩
                case measure => simp [intOf]; omega
              · by_cases hgt : β < y
                · go_wp2
                  go_roundw
                  case rel => exact ⟨k + 1, β, by go_num, by omega, rfl, Lib.hid ⟨HS5.out.1.more (by rw [← HY.out.1]; exact hgt) (by rw [← HY.out.1]; omega), by rw [rmins_succ, if_neg (fun h => by rw [← HY.out.1] at h; omega), List.append_nil]; exact HS5.out.2.1, HX5.out, HS5.out.2.2⟩⟩
                  case measure => simp [intOf]; omega
                · have hnew := HS5.out.1.new HY.out.2.symm (by rw [← HY.out.1]; omega) (by rw [← HY.out.1]; omega)
                  rw [← HY.out.1] at hnew
                  have HNEW := Lib.hid hnew
                  clear hnew
                  by_cases hlt3 : y < β
                  · have hnil : rmins a.nw v y k = [] := rmins_nil fun i hi hs => by have := HS5.out.1.le i hi hs; omega
                    have hown := World.ownsRow_nil (w5.alloc (.cells #[.slice (some ⟨g, 0, none⟩) v v] 40)) w1.heap.size 40 1
                    have hsz5 := HS5.out.2.2
                    have HNIL := Lib.hid hnil
                    clear hnil
                    go_wp2_with (at_builtin; refine wpList_append_own _ rfl _ _ 49 rfl w1.heap.size 40 i0 (.slice none 0 0) 1 24 Try.underlying49 HI.out.1 HI.out.2.1 HI.out.2.2.1 HI.out.2.2.2 rfl (by decide) _ 0 _ rfl hown ⟨w5.heap.size, 0, none⟩ 1 1 [.slice (some ⟨g, 0, none⟩) v v] rfl rfl ?c1 ?c2 ?c3 ?c4 ?c5 ?_)
                    case c1 =>
                      intro j u hj
                      match j, hj with
                      | 0, hj => simp at hj; subst hj; simp [Addr.add]
                      | j + 1, hj => simp at hj
                    case c2 => intro u hu; simp at hu; subst hu; rfl
                    case c3 => unfold maxLen; omega
                    case c4 => omega
                    case c5 => simp; omega
                    intro v' w6 hown' hgrow hnil9
                    clear hnil9
                    have HN : Hid (Sdb (bnum v) w6 w1.heap.size v' v (rmins a.nw v y (k + 1)) ∧ Ext W1 w6 ∧ w1.heap.size ≤ w6.heap.size) := by
                      have hxa : Ext w5 (w5.alloc (.cells #[.slice (some ⟨g, 0, none⟩) v v] 40)) := Ext.alc (Ext.refl w5) _
                      have how : w5.ownsRow w1.heap.size 40 1 (.slice none 0 0) ([] : List Nat).length (([] : List Nat).map fun g => Value.slice (some ⟨g, 0, none⟩) v v) := World.ownsRow_nil _ _ _ _
                      have hsd := Sdb.more (B := bnum v) (ks := []) (gs := []) (k := k) rfl (World.ownsRow.ext how hxa) (fun i hi => by simp at hi) (HB5.out.ext hxa) hown' hgrow
                      refine Lib.hid ⟨?_, ?_, ?_⟩
                      · rw [rmins_succ, if_pos ⟨HY.out.2.symm, HY.out.1.symm⟩, HNIL.out]; exact hsd
                      · have hb0 := World.ownsRow.lt how
                        have e := HX5.out
                        exact ⟨hgrow.os.trans e.os, hgrow.tape.trans e.tape, hgrow.output.trans e.output, by have h1 := hgrow.size; have h2 := e.size; simp at h1; omega, fun b hb => (hgrow.block b (by have h2 := e.size; simp; omega) (fun e2 => by have := (hb0 b e2.symm).1; omega)).trans ((Below.heap_alloc _ _ b (by have h2 := e.size; omega)).trans (e.block b hb))⟩
                      · have h1 := hgrow.size; simp at h1; omega
                    clear hown' hgrow hown
                    go_wp2
                    go_roundw
                    case rel => exact ⟨k + 1, y, by go_num, by omega, rfl, Lib.hid ⟨HNEW.out, HN.out⟩⟩
                    case measure => simp [intOf]; omega
                  · obtain rfl : y = β := by omega
                    obtain ⟨gs, hgl, how, hbs⟩ := HS5.out.2.1
                    have hown := World.ownsRow.ext how (Ext.alc (Ext.refl w5) (.cells #[.slice (some ⟨g, 0, none⟩) v v] 40))
                    have HBS := Lib.hid (And.intro hgl (And.intro how hbs))
                    have hvs := own_slice how
                    have hml := rmins_len a.nw v y k
                    have hsz5 := HS5.out.2.2
                    obtain ⟨L, hL⟩ : ∃ L, L = (rmins a.nw v y k).length := ⟨_, rfl⟩
                    rw [← hL] at hown hml
                    have HLL := Lib.hid hL
                    clear hgl how hbs hL
                    obtain ⟨Av, nv, cv, rfl⟩ := hvs
                    go_wp2_with (at_builtin; refine wpList_append_own _ rfl _ _ 49 rfl w1.heap.size 40 i0 (.slice none 0 0) 1 24 Try.underlying49 HI.out.1 HI.out.2.1 HI.out.2.2.1 HI.out.2.2.2 rfl (by decide) _ L _ rfl hown ⟨w5.heap.size, 0, none⟩ 1 1 [.slice (some ⟨g, 0, none⟩) v v] rfl rfl ?c1 ?c2 ?c3 ?c4 ?c5 ?_)
                    case c1 =>
                      intro j u hj
                      match j, hj with
                      | 0, hj => simp at hj; subst hj; simp [Addr.add]
                      | j + 1, hj => simp at hj
                    case c2 => intro u hu; simp at hu; subst hu; rfl
                    case c3 => unfold maxLen; omega
                    case c4 => omega
                    case c5 => simp; omega
                    intro v' w6 hown' hgrow hnil9
                    clear hnil9
                    have HN : Hid (Sdb (bnum v) w6 w1.heap.size v' v (rmins a.nw v y (k + 1)) ∧ Ext W1 w6 ∧ w1.heap.size ≤ w6.heap.size) := by
                      have hxa : Ext w5 (w5.alloc (.cells #[.slice (some ⟨g, 0, none⟩) v v] 40)) := Ext.alc (Ext.refl w5) _
                      obtain ⟨hgl, how, hbs⟩ := HBS.out
                      rw [HLL.out] at hown'
                      have hsd := Sdb.more hgl (World.ownsRow.ext how hxa) (fun i hi => (hbs i hi).ext hxa) (HB5.out.ext hxa) hown' hgrow
                      refine Lib.hid ⟨?_, ?_, ?_⟩
                      · rw [rmins_succ, if_pos ⟨HY.out.2.symm, HY.out.1.symm⟩]; exact hsd
                      · have hb0 := World.ownsRow.lt how
                        have e := HX5.out
                        exact ⟨hgrow.os.trans e.os, hgrow.tape.trans e.tape, hgrow.output.trans e.output, by have h1 := hgrow.size; have h2 := e.size; simp at h1; omega, fun b hb => (hgrow.block b (by have h2 := e.size; simp; omega) (fun e2 => by have := (hb0 b e2.symm).1; omega)).trans ((Below.heap_alloc _ _ b (by have h2 := e.size; omega)).trans (e.block b hb))⟩
                      · have h1 := hgrow.size; simp at h1; omega
                    clear hown' hgrow hown
                    go_wp2
                    go_roundw
                    case rel => exact ⟨k + 1, y, by go_num, by omega, rfl, Lib.hid ⟨HNEW.out, HN.out⟩⟩
                    case measure => simp [intOf]; omega
        · obtain rfl : k = P := by omega
          have hrb := hin.out.1
          rw [HPP.out] at hrb
          have HMC := Lib.hid (hrb.mc hm2 HOK.out.in_)
          have hr := hin.out.2.1.rws (by omega)
          have hq := hr
          obtain ⟨Aq, cq, hq, -⟩ := hq
          have HR := Lib.hid hr
          clear hrb hr m0 m1
          go_wp2
          refine bodyPost_ret (v := .tuple #[u4, .int .i64 0]) (by simp [results, Try.results29, go_sem]) rfl ⟨_, 0, rfl, HB.out.trans hin.out.2.2.1, .inr (.inr ⟨HV.out, by omega, rfl, β, ?_, ?_⟩)⟩
          · rw [Int.toNat_natCast]; exact HMC.out
          · rw [Int.toNat_natCast, ← HPP.out]; exact HR.out
    · have h12' : (12 : Int) < m := by omega
      go_wp2
      refine bodyPost_ret (v := .tuple #[.slice none 0 0, .int .i64 3]) (by simp [results, Try.results29, go_sem]) rfl ⟨_, 3, rfl, HB.out.trans HX.out, .inr (.inl ⟨HV.out, h12', rfl, rfl⟩)⟩
end Go.Proofs.Ytilcbbdmenknfaa
namespace Go.Proofs.Ytilcbbdmenknfaa
open Go.RowKit

/-- is node i in set k? -/
def sbit (k i : Nat) : Bool := decide (k / 2 ^ i % 2 = 1)
theorem sbit_val (k i : Nat) (hk : k < 1000000) : bits .and .i64 ((k : Int) / 2 ^ i) 1 = if sbit k i = true then 1 else 0 := by
  have h1 : ((k : Int) / 2 ^ i) = ((k / 2 ^ i : Nat) : Int) := by rw [Int.natCast_ediv, Int.natCast_pow]; rfl
  have h2 : k / 2 ^ i < 1000000 := Nat.lt_of_le_of_lt (Nat.div_le_self _ _) (by omega)
  rw [h1, bits_and1 _ h2]
  unfold sbit
  by_cases e : k / 2 ^ i % 2 = 1
  · rw [decide_eq_true e, if_pos rfl]; omega
  · rw [decide_eq_false e, if_neg (by simp)]; omega
/-- what the first K sets with u and without v have shown -/
structure Cb (a : Ar) (u v K : Nat) (β : Int) : Prop where
  lo : 0 ≤ β
  hi : β ≤ 1152921504606846976
  le : ∀ k, k < K → sbit k u = true → sbit k v = false → β ≤ across a (sbit k)
  has : β = 1152921504606846976 ∨ ∃ k, k < K ∧ sbit k u = true ∧ sbit k v = false ∧ across a (sbit k) = β
section
variable {a : Ar} {u v K : Nat} {β : Int}
theorem Cb.start : Cb a u v 0 1152921504606846976 := ⟨by omega, by omega, fun k hk => by omega, .inl rfl⟩
theorem Cb.no (h : Cb a u v K β) (hn : ¬ (sbit K u = true ∧ sbit K v = false)) : Cb a u v (K + 1) β :=
  ⟨h.lo, h.hi, fun k hk h1 h2 => by
    by_cases e : k = K
    · subst e; exact absurd ⟨h1, h2⟩ hn
    · exact h.le k (by omega) h1 h2, h.has.imp id fun ⟨k, h1, h2⟩ => ⟨k, by omega, h2⟩⟩
theorem Cb.new (h : Cb a u v K β) (h1 : sbit K u = true) (h2 : sbit K v = false) (h0 : 0 ≤ across a (sbit K)) : Cb a u v (K + 1) (min β (across a (sbit K))) := by
  refine ⟨by have := h.lo; omega, by have := h.hi; omega, fun k hk h3 h4 => ?_, ?_⟩
  · by_cases e : k = K
    · subst e; omega
    · have := h.le k (by omega) h3 h4; omega
  · by_cases e : across a (sbit K) ≤ β
    · exact .inr ⟨K, by omega, h1, h2, by omega⟩
    · rcases h.has with h5 | ⟨k, h5, h6, h7, h8⟩
      · left; omega
      · exact .inr ⟨k, by omega, h6, h7, by omega⟩
end
theorem across_congr {a : Ar} {N : Nat} {M : Int} (hO : a.Ok N M) {S T : Nat → Bool} (h : ∀ i, i < N → S i = T i) : across a S = across a T := by
  refine sm_congr fun k hk => ?_
  have h1 := hO.f0 k hk; have h2 := hO.fN k hk; have h3 := hO.t0 k hk; have h4 := hO.tN k hk
  rw [h _ (by omega), h _ (by omega)]
theorem across_bd {a : Ar} {N : Nat} (hO : a.Ok N 1000000) (hn : a.n ≤ 160) (S : Nat → Bool) : 0 ≤ across a S ∧ across a S ≤ 160000000 := by
  have h1 : across a S ≤ a.n * 1000000 := sm_const_le fun k hk => by
    have := hO.cM k hk
    split <;> omega
  have h2 : 0 ≤ across a S := sm_nonneg fun k hk => by
    have := hO.c0 k hk
    split <;> omega
  omega
theorem Cb.mc {a : Ar} {N u v : Nat} {β : Int} (hO : a.Ok N 1000000) (hn : a.n ≤ 160) (hu : u < N) (hv : v < N) (hne : u ≠ v) (h : Cb a u v (2 ^ N) β) : Mc (dbl a).nw u v β := by
  have key : ∀ S : Nat → Bool, S u = true → S v = false → ∃ k, k < 2 ^ N ∧ sbit k u = true ∧ sbit k v = false ∧ across a (sbit k) = across a S := by
    intro S h1 h2
    obtain ⟨k, hk, hb⟩ := bits_ex N S
    exact ⟨k, hk, by rw [← h1]; exact hb u hu, by rw [← h2]; exact hb v hv, across_congr hO hb⟩
  have hsm : β < 1152921504606846976 := by
    obtain ⟨k, a1, a2, a3, a4⟩ := key (fun i => decide (i = u)) (by simp) (by simp; exact fun e => hne e.symm)
    have := h.le k a1 a2 a3
    have := (across_bd hO hn (sbit k)).2
    omega
  refine ⟨?_, fun S hS => ?_⟩
  · rcases h.has with h1 | ⟨k, h1, h2, h3, h4⟩
    · omega
    · exact ⟨sbit k, ⟨h2, h3⟩, by rw [ct_dbl]; exact h4⟩
  · obtain ⟨k, a1, a2, a3, a4⟩ := key S hS.1 hS.2
    rw [ct_dbl, ← a4]
    exact h.le k a1 a2 a3

set_option maxHeartbeats 4000000 in
set_option maxRecDepth 100000 in
theorem cutR_any (N u v : Int) (a : Ar) (AV : Value) (W : World) (hA : Al W AV a) :
    Calls Try.prog 34 #[.agg #[.int .i64 N, AV], .int .i64 u, .int .i64 v] W fun e W' => ∃ c er : Int, e = .returned (.tuple #[.int .i64 c, .int .i64 er]) ∧ Ext W W' ∧
      ((cutOk N a u v = false ∧ c = 0 ∧ er = 2) ∨ (cutOk N a u v = true ∧ er = 0 ∧ Mc (dbl a).nw u.toNat v.toNat c)) := by
  have HA := Lib.hid hA
  obtain ⟨A, c, rfl, hac, hcm, -⟩ := hA
  have hno : ∀ w : World, Ext W w → cutOk N a u v = false → ∃ c er : Int, Ending.returned (.tuple #[.int .i64 0, .int .i64 2]) = .returned (.tuple #[.int .i64 c, .int .i64 er]) ∧ Ext W w ∧
      ((cutOk N a u v = false ∧ c = 0 ∧ er = 2) ∨ (cutOk N a u v = true ∧ er = 0 ∧ Mc (dbl a).nw u.toNat v.toNat c)) := fun w hx h => ⟨0, 2, rfl, hx, .inl ⟨h, rfl, rfl⟩⟩
  have HNO := Lib.hid hno; clear hno
  go_enter Try.func34, Try.ntmps34
  go_upto_region 1 with fail
  have bb := al1 W (.cells #[.int .i64 N, .slice A a.n c] 24)
  obtain ⟨m0, m1, -, mz⟩ := two (heap_alloc_new W (.cells #[.int .i64 N, .slice A a.n c] 24))
  generalize W.alloc (.cells #[.int .i64 N, .slice A a.n c] 24) = W1 at *
  have HB : Hid (Ext W W1) := Lib.hid bb
  have HM := Lib.hid (And.intro m0 m1)
  clear bb
  go_wp2_with fail
  refine (webR_any N a _ _ (HA.out.ext HB.out)).mono ?_
  rintro e w1 ⟨rfl, hx⟩
  replace m0 := keepAt hx mz m0
  replace m1 := keepAt hx mz m1
  have HX : Hid (Ext W1 w1) := Lib.hid hx
  clear hx
  by_cases hok : cutOk N a u v = true
  · have hok2 := hok
    rw [cutOk_iff] at hok2
    obtain ⟨h1, h2, ⟨h3, h4⟩, ⟨h5, h6⟩, h7⟩ := hok2
    obtain ⟨m, rfl, hm2, hm40, hn, hO⟩ := vNet_ok h1
    obtain ⟨x, rfl⟩ : ∃ x : Nat, u = x := ⟨u.toNat, by omega⟩
    obtain ⟨y, rfl⟩ : ∃ y : Nat, v = y := ⟨v.toNat, by omega⟩
    have hxm : x < m := by omega
    have hym : y < m := by omega
    have hxy : x ≠ y := by omega
    have hm12 : m ≤ 12 := by omega
    have hxi : (x : Int) < m := by omega
    have hyi : (y : Int) < m := by omega
    rw [h1, decide_eq_true h2]
    have HOK := Lib.hid hok; have HO := Lib.hid hO
    clear h1 h2 h3 h4 h5 h6 hok hO HNO
    obtain ⟨P, hP⟩ : ∃ P, P = 2 ^ m := ⟨_, rfl⟩
    have hsh : wrap64 ((2 : Int) ^ m) = (P : Int) := by rw [shl_twelve m hm12, hP]
    have hP2 : P ≤ 4096 := by rw [hP]; exact Nat.le_trans (Nat.pow_le_pow_right (by omega) hm12) (by decide)
    have HPP := Lib.hid hP
    clear hP
    go_wp2_with fail
    try rw [hsh]
    clear m0 m1 hsh
    go_loopw [8, 44] (fun be i wr => ∃ (k : Nat) (β : Int), i = .int .i64 k ∧ k ≤ P ∧ be = .int .i64 β ∧ Hid (Cb a x y k β ∧ Ext W1 wr)) (fun _ i _ => P - (intOf i).toNat)
    case atStart => exact ⟨0, _, rfl, Nat.zero_le _, rfl, Lib.hid ⟨Cb.start, HX.out⟩⟩
    case round =>
      obtain ⟨k, β, rfl, hk, rfl, hin⟩ := hrel
      have m0 := keepAt hin.out.2 mz HM.out.1
      have m1 := keepAt hin.out.2 mz HM.out.2
      by_cases hlt : k < P
      · have hk4 : k < 4096 := by omega
        obtain ⟨bx, hbx⟩ : ∃ b, b = sbit k x := ⟨_, rfl⟩
        obtain ⟨by_, hby⟩ : ∃ b, b = sbit k y := ⟨_, rfl⟩
        have hvx := sbit_val k x (by omega)
        have hvy := sbit_val k y (by omega)
        rw [← hbx] at hvx; rw [← hby] at hvy
        have HBX := Lib.hid (And.intro hbx hby)
        clear hbx hby
        cases bx
        · rw [if_neg (by simp)] at hvx
          clear hvy
          go_wp2
          go_roundw
          case rel => exact ⟨k + 1, β, by go_num, by omega, rfl, Lib.hid ⟨hin.out.1.no (fun h => by rw [← HBX.out.1] at h; cases h.1), hin.out.2⟩⟩
          case measure => simp [intOf]; omega
        · rw [if_pos rfl] at hvx
          cases by_
          · rw [if_neg (by simp)] at hvy
            go_wp2_with fail
            clear m0 m1 hvx hvy
            obtain ⟨wo, rfl⟩ : ∃ w, w = wr := ⟨_, rfl⟩
            go_loopw [10, 62] (fun su i wx => ∃ q : Nat, i = .int .i64 q ∧ q ≤ a.n ∧ su = .int .i64 (sm q fun j => if sbit k (a.f j).toNat = sbit k (a.t j).toNat then 0 else a.c j) ∧ Hid (Ext W1 wx)) (fun _ i _ => a.n - (intOf i).toNat)
            case atStart => exact ⟨0, rfl, Nat.zero_le _, rfl, Lib.hid hin.out.2⟩
            case round =>
              obtain ⟨q, rfl, hq, rfl, hin2⟩ := hrel
              obtain ⟨S, hS⟩ : ∃ S, S = sm q fun j => if sbit k (a.f j).toNat = sbit k (a.t j).toNat then 0 else a.c j := ⟨_, rfl⟩
              have hSb : 0 ≤ S ∧ S ≤ 160000000 := by
                have h1 : S ≤ q * 1000000 := by
                  rw [hS]; refine sm_const_le fun j hj => ?_
                  have := HO.out.cM j (by omega)
                  split <;> omega
                have h2 : 0 ≤ S := by
                  rw [hS]; refine sm_nonneg fun j hj => ?_
                  have := HO.out.c0 j (by omega)
                  split <;> omega
                omega
              rw [← hS]
              by_cases hlt2 : q < a.n
              · obtain ⟨b2, off, rfl, d1, d2, d3⟩ := HA.out.arc (HB.out.trans hin2.out) hlt2
                obtain ⟨fk, hfk, hfN⟩ : ∃ x : Nat, a.f q = (x : Int) ∧ x < m := ⟨(a.f q).toNat, by have := HO.out.f0 q hlt2; omega, by have := HO.out.f0 q hlt2; have := HO.out.fN q hlt2; omega⟩
                obtain ⟨tk, htk, htN⟩ : ∃ x : Nat, a.t q = (x : Int) ∧ x < m := ⟨(a.t q).toNat, by have := HO.out.t0 q hlt2; omega, by have := HO.out.t0 q hlt2; have := HO.out.tN q hlt2; omega⟩
                obtain ⟨ck, hck⟩ : ∃ x, x = a.c q := ⟨_, rfl⟩
                have hc0 := HO.out.c0 q hlt2
                have hcM := HO.out.cM q hlt2
                rw [hfk] at d1; rw [htk] at d2; rw [← hck] at d3 hc0 hcM
                have hsucc : (sm (q + 1) fun j => if sbit k (a.f j).toNat = sbit k (a.t j).toNat then 0 else a.c j) = S + (if sbit k fk = sbit k tk then 0 else ck) := by
                  show sm q _ + _ = _
                  rw [← hS]
                  dsimp only
                  rw [hfk, htk, Int.toNat_natCast, Int.toNat_natCast, ← hck]
                have HSC := Lib.hid hsucc
                obtain ⟨z1, hz1⟩ : ∃ z : Int, z = if sbit k fk = true then 1 else 0 := ⟨_, rfl⟩
                obtain ⟨z2, hz2⟩ : ∃ z : Int, z = if sbit k tk = true then 1 else 0 := ⟨_, rfl⟩
                have hv1 := sbit_val k fk (by omega)
                have hv2 := sbit_val k tk (by omega)
                rw [← hz1] at hv1; rw [← hz2] at hv2
                have hzz : (z1 = z2) ↔ (sbit k fk = sbit k tk) := by
                  rw [hz1, hz2]
                  cases sbit k fk <;> cases sbit k tk <;> simp
                have HZZ := Lib.hid hzz
                clear hfk htk hck hS hsucc hz1 hz2 hzz
                go_upto_region 12 with fail
                have hh := heap_alloc_new wr (.cells #[.int .i64 fk, .int .i64 tk, .int .i64 ck] 64)
                have e4 : Ext wr (wr.alloc (.cells #[.int .i64 fk, .int .i64 tk, .int .i64 ck] 64)) := Ext.alc (Ext.refl _) _
                have X4 := Lib.hid (hin2.out.trans e4)
                have k0 : (wr.alloc (.cells #[.int .i64 fk, .int .i64 tk, .int .i64 ck] 64)).drew.cell? ⟨wr.heap.size, 0, none⟩ = some (.int .i64 fk) := cell_of_row _ _ 0 _ 64 (0, 0) hh
                have k1 : (wr.alloc (.cells #[.int .i64 fk, .int .i64 tk, .int .i64 ck] 64)).drew.cell? ⟨wr.heap.size, 1, none⟩ = some (.int .i64 tk) := cell_of_row _ _ 1 _ 64 (0, 0) hh
                have k2 : (wr.alloc (.cells #[.int .i64 fk, .int .i64 tk, .int .i64 ck] 64)).drew.cell? ⟨wr.heap.size, 2, none⟩ = some (.int .i64 ck) := cell_of_row _ _ 2 _ 64 (0, 0) hh
                clear hh d1 d2 d3 e4
                generalize wr.alloc (.cells #[.int .i64 fk, .int .i64 tk, .int .i64 ck] 64) = w3 at *
                go_region
                by_cases hz : z1 = z2
                · have hne : (z1 != z2) = false := by simp; exact hz
                  have hsm := HSC.out
                  rw [if_pos (HZZ.out.1 hz), Int.add_zero] at hsm
                  have HS2 := Lib.hid hsm
                  clear hv1 hv2 k0 k1 k2 hz hsm
                  go_wp2
                  go_roundw
                  case rel => exact ⟨q + 1, by go_num, by omega, by rw [HS2.out], Lib.hid X4.out.drw⟩
                  case measure => simp [intOf]; omega
                · have hne : (z1 != z2) = true := by simp; exact hz
                  have hsm := HSC.out
                  rw [if_neg (fun h => hz (HZZ.out.2 h))] at hsm
                  have HS2 := Lib.hid hsm
                  have k2' : w3.drew.cell? ⟨wr.heap.size, 2, none⟩ = some (.int .i64 ck) := k2
                  clear hv1 hv2 k0 k1 k2 hz hsm
                  go_wp2
                  go_roundw
                  case rel => exact ⟨q + 1, by go_num, by omega, by rw [HS2.out], Lib.hid X4.out.drw⟩
                  case measure => simp [intOf]; omega
              · obtain rfl : q = a.n := by omega
                have hcb := hin.out.1.new HBX.out.1.symm HBX.out.2.symm (by show 0 ≤ across a (sbit k); unfold across; rw [← hS]; exact hSb.1)
                have hac2 : across a (sbit k) = S := hS.symm
                rw [hac2] at hcb
                have HCB := Lib.hid hcb
                clear hcb hac2 hS
                go_wp2
                go_roundw
                case rel => exact ⟨k + 1, _, by go_num, by omega, rfl, Lib.hid ⟨HCB.out, hin2.out⟩⟩
                case measure => simp [intOf]; omega
          · rw [if_pos rfl] at hvy
            go_wp2
            go_roundw
            case rel => exact ⟨k + 1, β, by go_num, by omega, rfl, Lib.hid ⟨hin.out.1.no (fun h => by rw [← HBX.out.2] at h; cases h.2), hin.out.2⟩⟩
            case measure => simp [intOf]; omega
      · obtain rfl : k = P := by omega
        have hcb := hin.out.1
        rw [HPP.out] at hcb
        have HMC := Lib.hid (hcb.mc HO.out hn hxm hym hxy)
        clear hcb m0 m1
        go_wp2
        refine bodyPost_ret (v := .tuple #[.int .i64 β, .int .i64 0]) (by simp [results, Try.results34, go_sem]) rfl ⟨β, 0, rfl, HB.out.trans hin.out.2, .inr ⟨HOK.out, rfl, by rw [Int.toNat_natCast, Int.toNat_natCast]; exact HMC.out⟩⟩
  · have hno : cutOk N a u v = false := by simpa using hok
    have HR := Lib.hid (HNO.out w1 (HB.out.trans HX.out) hno)
    have hfin : ¬ (vNet N a = true ∧ N ≤ 12 ∧ (0 ≤ u ∧ u ≤ N - 1) ∧ (0 ≤ v ∧ v ≤ N - 1) ∧ u ≠ v) := fun h => hok (cutOk_iff.2 h)
    clear hok HNO hno
    cases q1 : (vNet N a && decide (N ≤ 12))
    · clear m0 m1 hfin
      go_wp2
      all_goals exact bodyPost_ret (v := .tuple #[.int .i64 0, .int .i64 2]) (by simp [results, Try.results34, go_sem]) rfl HR.out
    · have q2 : vNet N a = true ∧ N ≤ 12 := by simpa using q1
      have HQ2 := Lib.hid q2
      by_cases b1 : u < 0
      · clear m1 hfin q2
        go_wp2
        all_goals exact bodyPost_ret (v := .tuple #[.int .i64 0, .int .i64 2]) (by simp [results, Try.results34, go_sem]) rfl HR.out
      · by_cases b2 : N ≤ u
        · clear m1 hfin q2
          go_wp2
          all_goals exact bodyPost_ret (v := .tuple #[.int .i64 0, .int .i64 2]) (by simp [results, Try.results34, go_sem]) rfl HR.out
        · by_cases b3 : v < 0
          · clear m1 hfin q2
            go_wp2
            all_goals exact bodyPost_ret (v := .tuple #[.int .i64 0, .int .i64 2]) (by simp [results, Try.results34, go_sem]) rfl HR.out
          · by_cases b4 : N ≤ v
            · clear m1 hfin q2
              go_wp2
              all_goals exact bodyPost_ret (v := .tuple #[.int .i64 0, .int .i64 2]) (by simp [results, Try.results34, go_sem]) rfl HR.out
            · have b5 : u = v := by
                rcases Decidable.em (u = v) with h | h
                · exact h
                · exact absurd ⟨q2.1, q2.2, ⟨by omega, by omega⟩, ⟨by omega, by omega⟩, h⟩ hfin
              have b5b : (u == v) = true := by simp; exact b5
              clear m1 hfin q2 b5
              go_wp2
              all_goals exact bodyPost_ret (v := .tuple #[.int .i64 0, .int .i64 2]) (by simp [results, Try.results34, go_sem]) rfl HR.out
end Go.Proofs.Ytilcbbdmenknfaa
