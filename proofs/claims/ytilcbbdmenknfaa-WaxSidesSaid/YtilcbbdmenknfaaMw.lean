/- Walks: the reference's way. -/
import Derived.Test.YtilcbbdmenknfaaMg
import Derived.Deep.LoopGhost
namespace Go.Proofs.Ytilcbbdmenknfaa
open Go.RowKit

/-- what holds while the walk is under way -/
structure Wd (W : World) (N s : Nat) (y : Nat → Nat → Int) (g : Nat) (q : Value) (wr : World) (R : Nat → Bool) (la rk : Nat → Nat) (l : List Nat) (K i : Nat) : Prop where
  qs : Qs wr W.heap.size q l.length (fun i => ((l.getD i 0 : Nat) : Int))
  own : q.ownBlock ≠ some g
  bF : BI wr g N (fun v => if R v = true then ((la v : Nat) : Int) else -1)
  wz : Wz N s y R la rk l K i
  ext : Ext W wr
theorem Wd.next {W X Y : World} {N s g K i : Nat} {y : Nat → Nat → Int} {q : Value} {R : Nat → Bool} {la rk : Nat → Nat} {l : List Nat} (h : Wd W N s y g q X R la rk l K i) (e : Ext X Y) : Wd W N s y g q Y R la rk l K i :=
  ⟨h.qs.ext e, h.own, h.bF.ext e, h.wz, h.ext.trans e⟩

set_option maxHeartbeats 4000000 in
set_option maxRecDepth 100000 in
theorem way_any (b N s : Nat) (y : Nat → Nat → Int) (W : World) (hG : Gd W b N y) (hN : N ≤ 100) (hs : s < N) :
    Calls Try.prog 79 #[.slice (some ⟨b, 0, none⟩) N N, .int .i64 s] W fun e W' => ∃ R la rk h,
      e = .returned (.slice (some ⟨h, 0, none⟩) N N) ∧ W.heap.size ≤ h ∧ BI W' h N (fun v => if R v = true then ((la v : Nat) : Int) else -1) ∧ Wm N s y R la rk ∧ (∀ v, R v = true → v < N ∧ la v < N) ∧ Ext W W' := by
  have hm1 : ∀ w, (Instr.makeSlice 33 (.int .i64 (N : Int)) (.int .i64 (N : Int))).run Try.prog w = .ok (.slice (some ⟨w.heap.size, 0, none⟩) N N) (w.alloc (.cells (Array.ofFn fun _ : Fin N => .int .i64 0) 3)) := fun w => make_one 33 3 _ 8 Try.underlying33 info3 rfl (by omega) N (by omega) w
  have HG := Lib.hid hG
  clear hG
  go_enter Try.func79, Try.ntmps79
  go_wp2_with fail
  have y1 : BI (W.alloc (.cells (Array.ofFn fun _ : Fin N => Value.int .i64 0) 3)) W.heap.size N (fun _ => 0) := heap_alloc_new W _
  have e1 : Ext W (W.alloc (.cells (Array.ofFn fun _ : Fin N => Value.int .i64 0) 3)) := Ext.alc (Ext.refl _) _
  have z1 : (W.alloc (.cells (Array.ofFn fun _ : Fin N => Value.int .i64 0) 3)).heap.size = W.heap.size + 1 := by simp
  generalize W.alloc (.cells (Array.ofFn fun _ : Fin N => Value.int .i64 0) 3) = W1 at *
  have Y1 := Lib.hid y1; have E1 := Lib.hid e1
  obtain ⟨g, hg⟩ : ∃ g, g = W.heap.size := ⟨_, rfl⟩
  rw [← hg] at z1 Y1
  rw [← hg]
  have hgW : W.heap.size ≤ g := by omega
  have Hg := Lib.hid hg
  clear y1 e1 hg
  go_loopw [16] (fun i wr => ∃ k : Nat, i = .int .i64 k ∧ k ≤ N ∧ Hid (BI wr g N (fun v => if v < k then -1 else 0) ∧ wr.heap.size = g + 1 ∧ Ext W wr)) (fun i _ => N - (intOf i).toNat)
  case atStart => exact ⟨0, rfl, Nat.zero_le _, Lib.hid ⟨Bk.congr Y1.out (fun j _ => by simp), z1, E1.out⟩⟩
  case round =>
    clear z1 E1 Y1
    obtain ⟨k, rfl, hk, hin⟩ := hrel
    by_cases hlt : k < N
    · have c6 := Bk.cell hin.out.1 hlt
      have f6 := Bk.free hin.out.1 k
      go_wp2
      go_roundw
      case rel =>
        refine ⟨k + 1, by go_num, by omega, Lib.hid ⟨Bk.congr (BI.set_ hin.out.1 k (-1)) fun j hj => ?_, by simp [World.setCell]; exact hin.out.2.1, hin.out.2.2.sc (by omega)⟩⟩
        by_cases e : j = k
        · subst e; rw [up_self]; dsimp only; rw [if_pos (by omega)]
        · rw [up_ne _ _ e]; dsimp only
          by_cases e2 : j < k
          · rw [if_pos e2, if_pos (by omega)]
          · rw [if_neg e2, if_neg (by omega)]
      case measure => simp [intOf]; omega
    · obtain rfl : k = N := by omega
      have c6 := Bk.cell hin.out.1 hs
      have f6 := Bk.free hin.out.1 s
      have y2 := BI.set_ hin.out.1 s s
      have e2 : Ext W (wr.setCell ⟨g, s, none⟩ (.int .i64 s)) := hin.out.2.2.sc (by omega)
      have z2 : (wr.setCell ⟨g, s, none⟩ (.int .i64 s)).heap.size = g + 1 := by simp [World.setCell]; exact hin.out.2.1
      have z3 : (wr.setCell ⟨g, s, none⟩ (.int .i64 s)).heap.size = wr.heap.size := by simp [World.setCell]
      have Y2 := Lib.hid y2; have E2 := Lib.hid e2; have Z2 := Lib.hid (And.intro z2 z3)
      clear y2 e2 z2 z3
      go_wp2_with fail
      clear c6 f6 hin
      generalize wr.setCell ⟨g, s, none⟩ (.int .i64 s) = w2 at *
      go_loopw [7, 8] (fun q i wr => ∃ K : Nat, i = .int .i64 K ∧ Hid (∃ R la rk l, Wd W k s y g q wr R la rk l K 0)) (fun _ i _ => k + 1 - (intOf i).toNat)
      case atStart =>
        have hq := Qs.one w2 W.heap.size s (by rw [Z2.out.1]; omega) (fun i => (([s].getD i 0 : Nat) : Int)) rfl
        rw [Z2.out.2] at hq
        have hz2 := Z2.out.1
        have hz3 := Z2.out.2
        refine ⟨0, rfl, Lib.hid ⟨_, _, _, [s], hq, ?_, ?_, Wz.start y hs, E2.out.alc _⟩⟩
        · simp [Value.ownBlock]; omega
        · refine Bk.congr (BI.ext Y2.out (Ext.alc (Ext.refl _) _)) fun j hj => ?_
          by_cases e : j = s
          · subst e; simp only [up_self, if_true]
          · simp only [up_ne _ _ e, if_pos hj, Bool.false_eq_true, if_false]
      case round =>
        clear Y2 E2 Z2
        obtain ⟨K, rfl, hin⟩ := hrel
        obtain ⟨R, la, rk, l, hwd⟩ := hin.out
        clear hin
        have hlN : l.length ≤ k := by have := hwd.wz.len; omega
        have HWD := Lib.hid hwd
        obtain ⟨A, c, rfl, hlc, hcm, hcell⟩ := hwd.qs.il
        clear hwd
        by_cases hlt : K < l.length
        · obtain ⟨b2, off, rfl, hb2, hcl⟩ := hcell (by omega)
          have c7 := hcl K hlt
          obtain ⟨u, hu⟩ : ∃ u, u = l.getD K 0 := ⟨_, rfl⟩
          dsimp only at c7
          rw [← hu] at c7
          have huN : u < k := by rw [hu]; exact HWD.out.wz.low _ (HWD.out.wz.qin _ (HWD.out.wz.mem hlt))
          have c8 := Gd.cellT (HG.out.ext HWD.out.ext) huN
          have HU := Lib.hid hu
          obtain ⟨n, hn⟩ : ∃ n, n = l.length := ⟨_, rfl⟩
          rw [← hn] at hlt hlN hlc hcl ⊢
          have HNL := Lib.hid hn
          clear hu hcell hcl hn
          go_wp2_with fail
          clear c7 c8
          go_loopw [7, 43] (fun q i wr => ∃ m : Nat, i = .int .i64 m ∧ m ≤ k ∧ Hid (∃ R la rk l, Wd W k s y g q wr R la rk l K m ∧ l.getD K 0 = u ∧ K < l.length)) (fun _ i _ => k - (intOf i).toNat)
          case atStart => exact ⟨0, rfl, Nat.zero_le _, Lib.hid ⟨R, la, rk, l, by have h := HWD.out; rw [← HNL.out] at h; exact h, HU.out.symm, by rw [← HNL.out]; exact hlt⟩⟩
          case round =>
            clear HWD HU HNL hlt hlN hlc
            obtain ⟨m, rfl, hm, hin⟩ := hrel
            by_cases hlt2 : m < k
            · obtain ⟨R, la, rk, l, hwd, hlu, hKl⟩ := hin.out
              have hlN : l.length ≤ k := by have := hwd.wz.len; omega
              have HWD := Lib.hid hwd; have HLU := Lib.hid hlu
              obtain ⟨A, c, rfl, hlc, hcm, hcell⟩ := hwd.qs.il
              clear hin hwd
              obtain ⟨b3, off3, rfl, hb3, hcl⟩ := hcell (by omega)
              have c7 := hcl K hKl
              dsimp only at c7
              rw [hlu] at c7
              clear hcell hcl hlu
              have c9 := Gd.cell (HG.out.ext HWD.out.ext) huN hlt2
              obtain ⟨z, hz⟩ : ∃ z, z = y u m := ⟨_, rfl⟩
              rw [← hz] at c9
              have HZ := Lib.hid hz
              clear hz
              have c6 := Bk.cell HWD.out.bF hlt2
              have f6 := Bk.free HWD.out.bF m
              by_cases h0 : 0 < z
              · cases hR : R m
                · simp only [hR, Bool.false_eq_true, if_false] at c6
                  have HR := Lib.hid hR
                  have HKL := Lib.hid hKl
                  clear hR
                  obtain ⟨n, hn⟩ : ∃ n, n = l.length := ⟨_, rfl⟩
                  rw [← hn] at hKl hlN hlc ⊢
                  have HNL := Lib.hid hn
                  clear hn
                  go_upto_region 17 with fail
                  have y1 := BI.set_ HWD.out.bF m u
                  have yq : Qs (wr.setCell ⟨g, m, none⟩ (.int .i64 u)) W.heap.size (.slice (some ⟨b3, off3, none⟩) l.length c) l.length (fun i => ((l.getD i 0 : Nat) : Int)) := HWD.out.qs.block (by simp [World.setCell]) (fun g' hg' => by
                    rw [Below.heap_setCell _ ⟨g, m, none⟩ _ g' (fun e => HWD.out.own (by rw [hg']; exact congrArg some e))])
                  have ye : Ext W (wr.setCell ⟨g, m, none⟩ (.int .i64 u)) := HWD.out.ext.sc (by omega)
                  have ys : g < (wr.setCell ⟨g, m, none⟩ (.int .i64 u)).heap.size := by have := Bk.lt HWD.out.bF; simpa [World.setCell] using this
                  have yo := HWD.out.own
                  rw [← HNL.out] at yq yo
                  have YO := Lib.hid yo; have YW := Lib.hid HWD.out.wz; have Y1 := Lib.hid y1; have YQ := Lib.hid yq; have YE := Lib.hid ye
                  clear y1 yq ye yo c6 f6 c7 c9 HWD
                  generalize wr.setCell ⟨g, m, none⟩ (.int .i64 u) = w3 at *
                  have yle : W.heap.size ≤ w3.heap.size := YE.out.size
                  obtain ⟨i0, hi, hz0, hz1, hz2⟩ := info_parts info3
                  go_wp2_with (at_builtin; refine wpList_append_q rfl _ _ 33 rfl i0 Try.underlying33 hi hz0 hz1 hz2 W.heap.size _ n (fun i => ((l.getD i 0 : Nat) : Int)) rfl ?qs ?base ⟨w3.heap.size, 0, none⟩ 1 m rfl ?cell ?n ?_)
                  case qs => exact YQ.out.ext (Ext.alc (Ext.refl _) _)
                  case base => simp; omega
                  case cell => rw [World.cell?_alloc_new]; rfl
                  case n => omega
                  intro v' w4 hq4 hgr
                  have g3 := hgr.bi (Y1.out.ext (Ext.alc (Ext.refl _) _)) YO.out
                  have ge := hgr.ext (YE.out.alc _) (fun b hb => (YQ.out.1 b hb).1)
                  have o1 := hgr.apart (b := g) (by simp; omega) YO.out
                  have HH := Lib.hid (And.intro hq4 (And.intro g3 (And.intro ge o1)))
                  clear hq4 hgr g3 ge o1
                  go_wp2
                  go_roundw
                  case rel =>
                    obtain ⟨hq4, g3, ge, o1⟩ := HH.out
                    have hnl := HNL.out
                    have hKl2 : K < l.length := by omega
                    have hp := YW.out.push hKl2 hlt2 (by rw [HLU.out, ← HZ.out]; exact h0) HR.out
                    rw [HLU.out] at hp
                    refine ⟨m + 1, by go_num, by omega, Lib.hid ⟨_, _, _, l ++ [m], ⟨?_, o1, ?_, hp, ge⟩, by rw [getD_snoc hKl2]; exact HLU.out, by rw [List.length_append]; omega⟩⟩
                    · rw [List.length_append, List.length_singleton, ← hnl]
                      refine hq4.congr fun i hi => ?_
                      by_cases e : i = n
                      · subst e; rw [up_self, hnl]; simp
                      · rw [up_ne _ _ e]; simp only [List.getD_eq_getElem?_getD]; rw [List.getElem?_append_left (by omega)]
                    · refine Bk.congr g3 fun j _ => ?_
                      by_cases e : j = m
                      · subst e; simp only [up_self, if_true]
                      · simp only [up_ne _ _ e]
                  case measure => simp [intOf]; omega
                · simp only [hR, if_true] at c6
                  have HR := Lib.hid hR
                  clear hR
                  obtain ⟨lv, hlv⟩ : ∃ lv : Int, lv = ((la m : Nat) : Int) := ⟨_, rfl⟩
                  have hlv0 : 0 ≤ lv := by omega
                  rw [← hlv] at c6
                  clear hlv c7
                  go_wp2
                  go_roundw
                  case rel => exact ⟨m + 1, by go_num, by omega, Lib.hid ⟨R, la, rk, l, ⟨HWD.out.qs, HWD.out.own, HWD.out.bF, HWD.out.wz.skip (fun _ => HR.out), HWD.out.ext⟩, HLU.out, hKl⟩⟩
                  case measure => simp [intOf]; omega
              · clear c6 c7
                go_wp2
                go_roundw
                case rel => exact ⟨m + 1, by go_num, by omega, Lib.hid ⟨R, la, rk, l, ⟨HWD.out.qs, HWD.out.own, HWD.out.bF, HWD.out.wz.skip (fun h => absurd (by rw [HLU.out, ← HZ.out] at h; exact h) h0), HWD.out.ext⟩, HLU.out, hKl⟩⟩
                case measure => simp [intOf]; omega
            · obtain rfl : m = k := by omega
              obtain ⟨R, la, rk, l, hwd, hlu, hKl⟩ := hin.out
              have hlN : l.length ≤ m := by have := hwd.wz.len; omega
              have HWD := Lib.hid hwd
              clear hwd hin hlu
              go_wp2
              go_roundw
              case rel => exact ⟨K + 1, by go_num, Lib.hid ⟨R, la, rk, l, ⟨HWD.out.qs, HWD.out.own, HWD.out.bF, HWD.out.wz.next hKl, HWD.out.ext⟩⟩⟩
              case measure => simp [intOf]; omega
        · go_wp2
          refine bodyPost_ret (v := .slice (some ⟨g, 0, none⟩) k k) (by simp [results, Try.results79, go_sem]) rfl ?_
          have h := HWD.out
          exact ⟨R, la, rk, g, rfl, hgW, h.bF, h.wz.wm hlt, fun v hv => ⟨h.wz.low v hv, h.wz.lal v hv⟩, h.ext⟩
end Go.Proofs.Ytilcbbdmenknfaa
