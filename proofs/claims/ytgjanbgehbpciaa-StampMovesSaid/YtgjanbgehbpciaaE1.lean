/- Walks: the reference's Close. -/
import Derived.Test.YtgjanbgehbpciaaD3
import Derived.Test.YtgjanbgehbpciaaPool
namespace Go.Proofs.Ytgjanbgehbpciaa
open Go.RowKit

/-- a row of moves of the call's own -/
def Sr (wr : World) (B gf cap : Nat) (ts : List Mv) : Prop := wr.ownsRow B 26 4 (.slice (some ⟨gf, 0, none⟩) ts.length cap) ts.length (ts.flatMap mc)
section
variable {wr X Y : World} {B gf cap : Nat} {ts : List Mv} {m : Mv}
theorem Sr.cell (h : Sr wr B gf cap ts) {j : Nat} (hm : ts[j]? = some m) : wr.cell? ⟨gf, j * 4, none⟩ = some (.int .i64 m.dx) ∧ wr.cell? ⟨gf, j * 4 + 1, none⟩ = some (.int .i64 m.dy) ∧ wr.cell? ⟨gf, j * 4 + 2, none⟩ = some (.int .i64 m.t) ∧ wr.cell? ⟨gf, j * 4 + 3, none⟩ = some (.bool m.f) := by
  have e : ∀ i, (⟨gf, 0, none⟩ : Addr).add i = ⟨gf, i, none⟩ := fun i => by unfold Addr.add; split <;> simp_all
  obtain ⟨a0, a1, a2, a3⟩ := mc_at ts j m hm
  refine ⟨?_, ?_, ?_, ?_⟩ <;> (rw [← e]; apply World.ownsRow.cells h rfl; assumption)
theorem Sr.cap_ (h : Sr wr B gf cap ts) : ts.length ≤ cap ∧ cap ≤ 9223372036854775807 ∧ B ≤ gf ∧ gf < wr.heap.size := by
  obtain ⟨h1, h2 | ⟨g, cp, cur, he, hg, hh, hn, hcap, hsz, htake⟩⟩ := h
  · obtain ⟨he, _⟩ := h2; cases he
  · injection he with e1 e2 e3
    injection e1 with e1
    injection e1 with e1
    subst e3 e1
    exact ⟨hn, by unfold maxLen at hcap; omega, hg, (Array.getElem?_eq_some_iff.1 hh).1⟩
theorem Sr.ext (h : Sr X B gf cap ts) (e : Ext X Y) : Sr Y B gf cap ts := World.ownsRow.ext h e
theorem Sr.far {g i : Nat} {u : Value} (h : Sr X B gf cap ts) (hne : g ≠ gf) : Sr (X.setCell ⟨g, i, none⟩ u) B gf cap ts := by
  obtain ⟨h1, h2 | ⟨g', cp, cur, he, hg, hh, rest⟩⟩ := h
  · obtain ⟨he, _⟩ := h2; cases he
  · refine ⟨h1, .inr ⟨g', cp, cur, he, hg, ?_, rest⟩⟩
    injection he with e1
    injection e1 with e1
    injection e1 with e1
    subst e1
    simp [World.setCell, Array.getElem?_modify, hh, hne]
end
theorem Br.far {W : World} {g g' i : Nat} {u : Value} {l : List Bool} (h : Br W g l) (hne : g ≠ g') : Br (W.setCell ⟨g', i, none⟩ u) g l := by
  unfold Br at *
  have hne' : ¬ g' = g := fun e => hne e.symm
  simp [World.setCell, Array.getElem?_modify, h, hne']
theorem KO.pop_c {w h : Nat} {ms : List Mv} {bs : List Bool} {fs : List Mv} {last : Mv} (hk : KO w h ms bs (last :: fs)) : KJ w h ms bs fs last 0 := by
  obtain ⟨h1, h2⟩ := hk
  have hl := h1.stk last (by simp)
  refine ⟨⟨h1.len, h1.sound, h1.one, fun g hg => h1.stk g (by simp [hg])⟩, hl.1, h1.gen hl.1 hl.2, fun g hg hb hf hne => h2 g hg hb (by simp [hf, hne]), fun i m hi => by omega⟩

/-- at the head of the queue's loop -/
def RO (W : World) (w h NN : Nat) (l : List Mv) (gin i : Nat) (v : Value) (wr : World) : Prop :=
  ∃ gf cap bs ts, v = .slice (some ⟨gf, 0, none⟩) ts.length cap ∧ i ≤ ts.length ∧ Cf bs + ts.length = NN ∧ Sr wr W.heap.size gf cap ts ∧ Br wr gin bs ∧ gin ≠ gf ∧ Ext W wr ∧ KO w h l bs (ts.drop i)
/-- at the head of the makers' loop -/
def RJ (W : World) (w h NN : Nat) (l : List Mv) (gin i : Nat) (last : Mv) (j : Nat) (v : Value) (wr : World) : Prop :=
  ∃ gf cap bs ts, v = .slice (some ⟨gf, 0, none⟩) ts.length cap ∧ i < ts.length ∧ ts[i]? = some last ∧ Cf bs + ts.length = NN ∧ Sr wr W.heap.size gf cap ts ∧ Br wr gin bs ∧ gin ≠ gf ∧ Ext W wr ∧ KJ w h l bs (ts.drop (i + 1)) last j
/-- the marked ones of the first moves -/
def fo (w h : Nat) (bs : List Bool) (i : Nat) : List Mv := ((mvs w h (pos w h 2 0 0 0)).take i).filter (fun m => bs.getD (nm w h m) false)
section
variable {w h i : Nat} {bs : List Bool} {m : Mv} {ms : List Mv}
theorem fo_yes (hm : (mvs w h (pos w h 2 0 0 0))[i]? = some m) (hb : bs.getD (nm w h m) false = true) : fo w h bs (i + 1) = fo w h bs i ++ [m] := by
  unfold fo
  have : List.filter (fun m => bs.getD (nm w h m) false) [m] = [m] := by rw [List.filter_cons, if_pos hb]; rfl
  rw [List.take_add_one, hm, List.filter_append]
  exact congrArg _ this
theorem fo_no (hm : (mvs w h (pos w h 2 0 0 0))[i]? = some m) (hb : bs.getD (nm w h m) false = false) : fo w h bs (i + 1) = fo w h bs i := by
  unfold fo
  have : List.filter (fun m => bs.getD (nm w h m) false) [m] = [] := by rw [List.filter_cons, if_neg (by rw [hb]; decide)]; rfl
  rw [List.take_add_one, hm, List.filter_append]
  exact (congrArg (_ ++ ·) this).trans (List.append_nil _)
theorem fo_len (w h : Nat) (bs : List Bool) (i : Nat) : (fo w h bs i).length ≤ i := by
  unfold fo
  exact Nat.le_trans (List.length_filter_le _ _) (by rw [List.length_take]; omega)
open Classical in
theorem fo_end (hg : GB w h ms bs) : fo w h bs (mvs w h (pos w h 2 0 0 0)).length = grp w h ms := by
  unfold fo grp
  rw [List.take_of_length_le (Nat.le_refl _)]
  refine List.filter_congr fun m hm => ?_
  have := hg.2 m (mvs_mem.1 hm)
  rw [Bool.eq_iff_iff, this, decide_eq_true_iff]
end
/-- at the head of the last loop -/
def FO (W5 : World) (w h : Nat) (bs : List Bool) (k : Nat) (v : Value) (wr : World) : Prop :=
  wr.ownsRow W5.heap.size 26 4 v (fo w h bs k).length ((fo w h bs k).flatMap mc) ∧ Ext W5 wr

set_option maxHeartbeats 8000000 in
set_option maxRecDepth 100000 in
theorem closeR_c (w h : Nat) (A : Option Addr) (N c : Nat) (l : List Mv) (W : World) (hs : okSize w h = true) (hall : ∀ m ∈ l, has w h m = true) (hml : Ml W (.slice A N c) l) (hN : N ≤ 1000) :
    Calls Try.prog 35 #[.int .i64 w, .int .i64 h, .slice A N c] W fun e W' => ∃ v, e = .returned v ∧ Ml W' v (grp w h l) ∧ Ext W W' := by
  have hs' := okSize_iff.1 hs
  obtain ⟨i0, hi, hz0, hz1, hz2⟩ := info_parts info26
  have hNN := pos2_bd (w := w) (h := h) (by omega) (by omega)
  have hNe : pos w h 2 0 0 0 = 8 * w * h := by simp [pos]
  have hmk := make_bool (pos w h 2 0 0 0) (by omega)
  have hbd : ∀ m, has w h m = true → nm w h m < pos w h 2 0 0 0 := fun m hm => nm_bd hm
  have hmv := fun X => movesR_any w h X (by omega) (by omega)
  have hmvl := mvs_len w h (pos w h 2 0 0 0)
  have hst := KO.start (ms := l) hs
  have hNN1 := nm_bd (one_has hs)
  obtain ⟨mv, hmve⟩ : ∃ mv, mv = mvs w h (pos w h 2 0 0 0) := ⟨_, rfl⟩
  rw [← hmve] at hmvl
  simp only [← hmve] at hmv
  obtain ⟨NN, hNNe⟩ : ∃ NN, NN = pos w h 2 0 0 0 := ⟨_, rfl⟩
  have s5 : IntKind.i64.wrap (8 * (w : Int)) = 8 * (w : Int) := IntWalk.i64_in _ (by omega)
  have s7 : 8 * (w : Int) * h = ((NN : Nat) : Int) := by rw [hNNe, hNe]; simp
  have s6 : IntKind.i64.wrap (8 * (w : Int) * h) = ((NN : Nat) : Int) := by rw [s7]; exact IntWalk.i64_in _ (by omega)
  rw [← hNNe] at hNN hmk hmvl hst hNN1
  simp only [← hNNe] at hbd
  have hN0 : 0 < NN := by omega
  have hnb := fun m X (hm : has w h m = true) => numberR_any w h m X hs hm
  have haf := fun a b X (ha : has w h a = true) (hb : has w h b = true) => afterR_any w h a b X hs ha hb
  have HS := Lib.hid hs; have HALL := Lib.hid hall; have HNB := Lib.hid hnb; have HAF := Lib.hid haf; have HBD := Lib.hid hbd; have HMV := Lib.hid hmv; have HMVE := Lib.hid hmve; have HNNE := Lib.hid hNNe; have HML := Lib.hid hml; have HST := Lib.hid hst
  clear hs hall hnb haf hbd hmv hmve hNNe hml hst hNe hs' hNN1
  have hlen : N = l.length := HML.out.len
  have HLEN := Lib.hid hlen; clear hlen
  obtain ⟨ob, hob⟩ : ∃ ob : Obj, ob = .cells ((List.replicate NN false).map Value.bool).toArray 4 := ⟨_, rfl⟩
  rw [← hob] at hmk
  have HOB := Lib.hid hob; clear hob
  go_enter Try.func35, Try.ntmps35
  go_upto_region 2 with fail
  have hb0 : Br (W.alloc ob) W.heap.size (List.replicate NN false) := by rw [HOB.out]; exact heap_alloc_new _ _
  have he0 : Ext W (W.alloc ob) := (Ext.refl W).alc _
  obtain ⟨gin, hgi⟩ : ∃ gin, gin = W.heap.size := ⟨_, rfl⟩
  rw [← hgi] at hb0 ⊢
  have hgin : W.heap.size ≤ gin := by omega
  generalize W.alloc ob = V2 at *
  clear hgi hmk s5 s6 s7
  have f0 : ∀ o, V2.frozen? ⟨gin, o, none⟩ = false := fun o => hb0.frozen o
  have c0 := hb0.cell (j := 0) (by simp; exact hN0)
  have HB0 := Lib.hid hb0; have HE0 := Lib.hid he0; clear hb0 he0
  go_wp2_with fail
  clear c0 f0
  have hb1 : Br (V2.setCell ⟨gin, 0, none⟩ (.bool true)) gin ((List.replicate NN false).set 0 true) := HB0.out.set 0 true
  have he1 : Ext W (V2.setCell ⟨gin, 0, none⟩ (.bool true)) := HE0.out.sc hgin
  have hgz : gin < (V2.setCell ⟨gin, 0, none⟩ (.bool true)).heap.size := hb1.lt
  have hse : (V2.setCell ⟨gin, 0, none⟩ (.bool true)).heap.size = V2.heap.size := by simp [World.setCell]
  obtain ⟨sz, hsz⟩ : ∃ sz, sz = V2.heap.size := ⟨_, rfl⟩
  rw [← hsz] at hse ⊢
  generalize V2.setCell ⟨gin, 0, none⟩ (.bool true) = V3 at *
  subst hse
  clear hsz
  have HB1 := Lib.hid hb1; have HE1 := Lib.hid he1; clear hb1 he1 HB0 HE0
  have hsk : Sr (V3.alloc (.cells #[.int .i64 0, .int .i64 0, .int .i64 0, .bool false] 26)) W.heap.size V3.heap.size 1 [Mv.one] :=
    ⟨rfl, .inr ⟨V3.heap.size, 1, #[.int .i64 0, .int .i64 0, .int .i64 0, .bool false], rfl, HE1.out.size, heap_alloc_new _ _, Nat.le_refl _, by unfold maxLen; omega, rfl, rfl⟩⟩
  have hbr := HB1.out.ext (Ext.alc (Ext.refl V3) (.cells #[.int .i64 0, .int .i64 0, .int .i64 0, .bool false] 26))
  have hex := HE1.out.alc (.cells #[.int .i64 0, .int .i64 0, .int .i64 0, .bool false] 26)
  have HSK := Lib.hid hsk; have HBR := Lib.hid hbr; have HEX := Lib.hid hex; clear hsk hbr hex
  go_loopw [8, 9] (fun v i wr => ∃ i1 : Nat, i = .int .i64 i1 ∧ RO W w h NN l gin i1 v wr) (fun _ i _ => NN - (intOf i).toNat)
  case atStart =>
    refine ⟨0, rfl, V3.heap.size, 1, _, [Mv.one], rfl, by simp, ?_, HSK.out, HBR.out, by omega, HEX.out, HST.out⟩
    have hf : (List.replicate NN false).getD 0 false = false := by rw [List.getD_eq_getElem?_getD, List.getElem?_replicate]; split <;> rfl
    have h1 := Cf_set (bs := List.replicate NN false) (n := 0) (by simp; exact hN0) hf
    have h2 : Cf (List.replicate NN false) = NN := by unfold Cf; rw [List.countP_replicate]; simp
    simp only [List.length_singleton]
    omega
  case round =>
    clear HSK HBR HEX HB1 HE1 HST
    obtain ⟨i1, rfl, gf, cap, bs, ts, rfl, hit, hmeas, hsk, hbr, hne, hex, hko⟩ := hrel
    have HSK := Lib.hid hsk; have HBR := Lib.hid hbr; have HEX := Lib.hid hex; have HKO := Lib.hid hko; clear hsk hbr hex hko
    obtain ⟨n, hn⟩ : ∃ n, n = ts.length := ⟨_, rfl⟩
    have hcap := HSK.out.cap_
    rw [← hn] at hmeas hcap hit ⊢
    have HN := Lib.hid hn; clear hn
    obtain ⟨p1, p2, p3, p4⟩ := hcap
    by_cases hlt : i1 < n
    · obtain ⟨last, hlast⟩ : ∃ m, ts[i1]? = some m := ⟨ts[i1]'(by rw [← HN.out]; exact hlt), List.getElem?_eq_getElem _⟩
      have hdrop : ts.drop i1 = last :: ts.drop (i1 + 1) := by
        obtain ⟨h1, h2⟩ := List.getElem?_eq_some_iff.1 hlast
        rw [List.drop_eq_getElem_cons h1, h2]
      have hkj : KJ w h l bs (ts.drop (i1 + 1)) last 0 := KO.pop_c (by rw [← hdrop]; exact HKO.out)
      have HLAST := Lib.hid hlast; have HKJ := Lib.hid hkj; clear hlast hdrop hkj HKO
      go_wp2_with fail
      obtain ⟨wo, rfl⟩ : ∃ wo : World, wo = wr := ⟨_, rfl⟩
      go_loopw [8, 33] (fun v i wr => ∃ j : Nat, i = .int .i64 j ∧ j ≤ N ∧ RJ W w h NN l gin i1 last j v wr) (fun _ i _ => N - (intOf i).toNat)
      case atStart => exact ⟨0, rfl, by omega, gf, cap, bs, ts, by rw [← HN.out], by rw [← HN.out]; exact hlt, HLAST.out, by rw [← HN.out]; exact hmeas, HSK.out, HBR.out, hne, HEX.out, HKJ.out⟩
      case round =>
        clear HSK HBR HEX HLAST HKJ HN
        obtain ⟨j, rfl, hj, gf, cap, bs, ts, rfl, hit2, hlast, hmeas, hsk, hbr, hne, hex, hkj⟩ := hrel
        have HSK := Lib.hid hsk; have HBR := Lib.hid hbr; have HEX := Lib.hid hex; have HLAST := Lib.hid hlast; have HKJ := Lib.hid hkj; clear hsk hbr hex hkj hlast
        obtain ⟨n, hn⟩ : ∃ n, n = ts.length := ⟨_, rfl⟩
        have hcap := HSK.out.cap_
        rw [← hn] at hmeas hcap hit2 ⊢
        have HN := Lib.hid hn; clear hn
        obtain ⟨p1, p2, p3, p4⟩ := hcap
        by_cases hlj : j < N
        · obtain ⟨m, hm⟩ : ∃ m, l[j]? = some m := ⟨l[j]'(by rw [← HLEN.out]; exact hlj), List.getElem?_eq_getElem _⟩
          obtain ⟨b, off, rfl, hb, hc⟩ := HML.out.cm (by omega)
          obtain ⟨d0, d1, d2, d3⟩ := (hc.ext hb HEX.out) j m hm
          clear hc
          have hmh : has w h m = true := HALL.out m (List.mem_of_getElem? hm)
          have hlh : has w h last = true := HKJ.out.2.1
          have hxh : has w h (aft w h m last) = true := aft_has HS.out hmh hlh
          have haf := fun X => HAF.out m last X hmh hlh
          have hnb2 := fun X => HNB.out _ X hxh
          have hbd := HBD.out _ hxh
          have hkn := HKJ.out.new HS.out HALL.out hm
          have hko := fun (hb : bs.getD (nm w h (aft w h m last)) false = true) => HKJ.out.old hm hb
          obtain ⟨x, hxe⟩ : ∃ x, x = aft w h m last := ⟨_, rfl⟩
          simp only [← hxe] at haf hnb2
          rw [← hxe] at hbd hkn hko
          obtain ⟨nn, hnn⟩ : ∃ nn, nn = nm w h x := ⟨_, rfl⟩
          simp only [← hnn] at hnb2
          rw [← hnn] at hbd hkn hko
          have HAF2 := Lib.hid haf; have HNB2 := Lib.hid hnb2; have HKN := Lib.hid hkn; have HKO := Lib.hid hko
          clear haf hnb2 hkn hko hxe hnn hmh hlh hxh hm
          have hq := q4_new wr (.int .i64 m.dx) (.int .i64 m.dy) (.int .i64 m.t) (.bool m.f) 26
          have e3 : Ext wr (wr.alloc (.cells #[.int .i64 m.dx, .int .i64 m.dy, .int .i64 m.t, .bool m.f] 26)) := (Ext.refl wr).alc _
          have hs3 : wr.heap.size < (wr.alloc (.cells #[.int .i64 m.dx, .int .i64 m.dy, .int .i64 m.t, .bool m.f] 26)).heap.size := by simp
          have hsk3 := HSK.out.ext e3
          have hbr3 := HBR.out.ext e3
          have hex3 := HEX.out.trans e3
          go_upto_region 10 with fail
          generalize (wr.alloc (.cells #[.int .i64 m.dx, .int .i64 m.dy, .int .i64 m.t, .bool m.f] 26)) = W3 at *
          have hcl3 := hsk3.cell HLAST.out
          have hgf3 : gf < W3.heap.size := hsk3.cap_.2.2.2
          have HCL := Lib.hid hcl3; have HQ := Lib.hid hq; have HSK3 := Lib.hid hsk3; have HBR3 := Lib.hid hbr3; have HEX3 := Lib.hid hex3
          clear hcl3 hq hsk3 hbr3 hex3 e3 HSK HBR HEX d0 d1 d2 d3
          refine wp_region_noPanic ?_
          refine wp_pool 9 [some 37, some 38, some 39, some 40, some 41, some 42, some 43, some 44, some 12] [] [8] [(fun (v : Value) (_ : World) => v = .int .i64 w), (fun (v : Value) (_ : World) => v = .int .i64 h), (fun (v : Value) (_ : World) => v = .agg #[.int .i64 m.dx, .int .i64 m.dy, .int .i64 m.t, .bool m.f]), (fun (v : Value) (_ : World) => v = .slice (some ⟨gf, 0, none⟩) n cap), (fun (v : Value) (_ : World) => v = .int .i64 i1), (fun (v : Value) (_ : World) => v = .pointer (some ⟨gf, i1 * 4, none⟩)), (fun (v : Value) (_ : World) => v = .agg #[.int .i64 last.dx, .int .i64 last.dy, .int .i64 last.t, .bool last.f]), (fun (v : Value) (_ : World) => v = .agg #[.int .i64 x.dx, .int .i64 x.dy, .int .i64 x.t, .bool x.f]), (fun (v : Value) (X : World) => ∃ g, v = .pointer (some ⟨g, 0, none⟩) ∧ W3.heap.size ≤ g ∧ QB X g)] [noF, noF, noF, noF, noF, noF, noF, noF, ptrF] (by kernel_rfl) (by kernel_rfl) (by kernel_rfl) (by kernel_rfl) (by kernel_rfl) (by kernel_rfl) (by kernel_rfl) (by kernel_rfl) (fun _ _ _ _ h => h) ⟨Stays.pure _, Stays.pure _, Stays.pure _, Stays.pure _, Stays.pure _, Stays.pure _, Stays.pure _, Stays.pure _, (fun _ _ _ e ⟨g, h1, h2, h3⟩ => ⟨g, h1, h2, h3.ext e⟩), True.intro⟩ ?steps ?done
          case steps =>
            simp only [List.take_succ_cons, List.take_zero]
            refine Steps.cons (fun (v : Value) (_ : World) => v = .int .i64 w) [] rfl (by kernel_rfl) rfl (by kernel_rfl) (fun y X ex0 hf K hK => ?_) ?_
            · clear hf
              have ex := (Ext.drw (Ext.refl _)).trans ex0
              refine Box.mk ?_
              simp only [fill, Act.put, Nat.reduceAdd, List.setIfInBounds_toArray, List.set_cons_zero, List.set_cons_succ] at hK ⊢
              go_simp
              exact hK.out _ _ rfl (Ext.refl _) (fun b hb => by cases hb)
            refine Steps.cons (fun (v : Value) (_ : World) => v = .int .i64 h) [] rfl (by kernel_rfl) rfl (by kernel_rfl) (fun y X ex0 hf K hK => ?_) ?_
            · clear hf
              have ex := (Ext.drw (Ext.refl _)).trans ex0
              refine Box.mk ?_
              simp only [fill, Act.put, Nat.reduceAdd, List.setIfInBounds_toArray, List.set_cons_zero, List.set_cons_succ] at hK ⊢
              go_simp
              exact hK.out _ _ rfl (Ext.refl _) (fun b hb => by cases hb)
            refine Steps.cons (fun (v : Value) (_ : World) => v = .agg #[.int .i64 m.dx, .int .i64 m.dy, .int .i64 m.t, .bool m.f]) [] rfl (by kernel_rfl) rfl (by kernel_rfl) (fun y X ex0 hf K hK => ?_) ?_
            · clear hf
              have ex := (Ext.drw (Ext.refl _)).trans ex0
              refine Box.mk ?_
              simp only [fill, Act.put, Nat.reduceAdd, List.setIfInBounds_toArray, List.set_cons_zero, List.set_cons_succ] at hK ⊢
              obtain ⟨q0, q1, q2, q3⟩ := Q4.ext HQ.out hs3 ex
              go_simp
              exact hK.out _ _ rfl (Ext.refl _) (fun b hb => by cases hb)
            refine Steps.cons (fun (v : Value) (_ : World) => v = .slice (some ⟨gf, 0, none⟩) n cap) [] rfl (by kernel_rfl) rfl (by kernel_rfl) (fun y X ex0 hf K hK => ?_) ?_
            · clear hf
              have ex := (Ext.drw (Ext.refl _)).trans ex0
              refine Box.mk ?_
              simp only [fill, Act.put, Nat.reduceAdd, List.setIfInBounds_toArray, List.set_cons_zero, List.set_cons_succ] at hK ⊢
              go_simp
              exact hK.out _ _ rfl (Ext.refl _) (fun b hb => by cases hb)
            refine Steps.cons (fun (v : Value) (_ : World) => v = .int .i64 i1) [] rfl (by kernel_rfl) rfl (by kernel_rfl) (fun y X ex0 hf K hK => ?_) ?_
            · clear hf
              have ex := (Ext.drw (Ext.refl _)).trans ex0
              refine Box.mk ?_
              simp only [fill, Act.put, Nat.reduceAdd, List.setIfInBounds_toArray, List.set_cons_zero, List.set_cons_succ] at hK ⊢
              go_simp
              exact hK.out _ _ rfl (Ext.refl _) (fun b hb => by cases hb)
            refine Steps.cons (fun (v : Value) (_ : World) => v = .pointer (some ⟨gf, i1 * 4, none⟩)) [3, 4] rfl (by kernel_rfl) rfl (by kernel_rfl) (fun y X ex0 hf K hK => ?_) ?_
            · have h3 : ((fun (v : Value) (_ : World) => v = .slice (some ⟨gf, 0, none⟩) n cap)) (y 3) X := hf.1
              have h4 : ((fun (v : Value) (_ : World) => v = .int .i64 i1)) (y 4) X := hf.2.1
              clear hf
              have ex := (Ext.drw (Ext.refl _)).trans ex0
              refine Box.mk ?_
              simp only [fill, Act.put, Nat.reduceAdd, List.setIfInBounds_toArray, List.set_cons_zero, List.set_cons_succ, h3, h4] at hK ⊢
              go_simp
              exact hK.out _ _ rfl (Ext.refl _) (fun b hb => by cases hb)
            refine Steps.cons (fun (v : Value) (_ : World) => v = .agg #[.int .i64 last.dx, .int .i64 last.dy, .int .i64 last.t, .bool last.f]) [5] rfl (by kernel_rfl) rfl (by kernel_rfl) (fun y X ex0 hf K hK => ?_) ?_
            · have h5 : ((fun (v : Value) (_ : World) => v = .pointer (some ⟨gf, i1 * 4, none⟩))) (y 5) X := hf.1
              clear hf
              have ex := (Ext.drw (Ext.refl _)).trans ex0
              refine Box.mk ?_
              simp only [fill, Act.put, Nat.reduceAdd, List.setIfInBounds_toArray, List.set_cons_zero, List.set_cons_succ, h5] at hK ⊢
              obtain ⟨l0, l1, l2, l3⟩ := HCL.out
              have k0 := keepAt ex hgf3 l0
              have k1 := keepAt ex hgf3 l1
              have k2 := keepAt ex hgf3 l2
              have k3 := keepAt ex hgf3 l3
              clear l0 l1 l2 l3
              go_simp
              exact hK.out _ _ rfl (Ext.refl _) (fun b hb => by cases hb)
            refine Steps.cons (fun (v : Value) (_ : World) => v = .agg #[.int .i64 x.dx, .int .i64 x.dy, .int .i64 x.t, .bool x.f]) [0, 1, 2, 6] rfl (by kernel_rfl) rfl (by kernel_rfl) (fun y X ex0 hf K hK => ?_) ?_
            · have h0 : ((fun (v : Value) (_ : World) => v = .int .i64 w)) (y 0) X := hf.1
              have h1 : ((fun (v : Value) (_ : World) => v = .int .i64 h)) (y 1) X := hf.2.1
              have h2 : ((fun (v : Value) (_ : World) => v = .agg #[.int .i64 m.dx, .int .i64 m.dy, .int .i64 m.t, .bool m.f])) (y 2) X := hf.2.2.1
              have h6 : ((fun (v : Value) (_ : World) => v = .agg #[.int .i64 last.dx, .int .i64 last.dy, .int .i64 last.t, .bool last.f])) (y 6) X := hf.2.2.2.1
              clear hf
              have ex := (Ext.drw (Ext.refl _)).trans ex0
              refine Box.mk ?_
              simp only [fill, Act.put, Nat.reduceAdd, List.setIfInBounds_toArray, List.set_cons_zero, List.set_cons_succ, h0, h1, h2, h6] at hK ⊢
              go_simp
              refine (HAF2.out _).mono ?_
              rintro e V ⟨rfl, hb⟩
              try go_wp2_with fail
              exact hK.out _ _ rfl hb (fun b hb => by cases hb)
            refine Steps.cons (fun (v : Value) (X : World) => ∃ g, v = .pointer (some ⟨g, 0, none⟩) ∧ W3.heap.size ≤ g ∧ QB X g) [] rfl (by kernel_rfl) rfl (by kernel_rfl) (fun y X ex0 hf K hK => ?_) ?_
            · clear hf
              have ex := (Ext.drw (Ext.refl _)).trans ex0
              refine Box.mk ?_
              simp only [fill, Act.put, Nat.reduceAdd, List.setIfInBounds_toArray, List.set_cons_zero, List.set_cons_succ] at hK ⊢
              go_simp
              exact hK.out _ _ ⟨X.heap.size, rfl, ex.size, QB.new X (.int .i64 0) (.int .i64 0) (.int .i64 0) (.bool false) 26⟩ (Ext.alc (Ext.refl X) (.cells #[.int .i64 0, .int .i64 0, .int .i64 0, .bool false] 26)) (New.ptr (Nat.le_refl _) (by simp))
            exact Steps.nil
          case done =>
            intro y X ex hf hlt hsep
            have h0 : ((fun (v : Value) (_ : World) => v = .int .i64 w)) (y 0) X := hf.1
            have h1 : ((fun (v : Value) (_ : World) => v = .int .i64 h)) (y 1) X := hf.2.1
            have h2 : ((fun (v : Value) (_ : World) => v = .agg #[.int .i64 m.dx, .int .i64 m.dy, .int .i64 m.t, .bool m.f])) (y 2) X := hf.2.2.1
            have h3 : ((fun (v : Value) (_ : World) => v = .slice (some ⟨gf, 0, none⟩) n cap)) (y 3) X := hf.2.2.2.1
            have h4 : ((fun (v : Value) (_ : World) => v = .int .i64 i1)) (y 4) X := hf.2.2.2.2.1
            have h5 : ((fun (v : Value) (_ : World) => v = .pointer (some ⟨gf, i1 * 4, none⟩))) (y 5) X := hf.2.2.2.2.2.1
            have h6 : ((fun (v : Value) (_ : World) => v = .agg #[.int .i64 last.dx, .int .i64 last.dy, .int .i64 last.t, .bool last.f])) (y 6) X := hf.2.2.2.2.2.2.1
            have h7 : ((fun (v : Value) (_ : World) => v = .agg #[.int .i64 x.dx, .int .i64 x.dy, .int .i64 x.t, .bool x.f])) (y 7) X := hf.2.2.2.2.2.2.2.1
            have hh8 : ((fun (v : Value) (X : World) => ∃ g, v = .pointer (some ⟨g, 0, none⟩) ∧ W3.heap.size ≤ g ∧ QB X g)) (y 8) X := hf.2.2.2.2.2.2.2.2.1
            refine Exists.elim hh8 (fun g8 hx8_0 => ?_)
            have h8 := hx8_0.1
            have z8 := hx8_0.2.1
            have q8 := hx8_0.2.2
            clear hh8 hx8_0
            clear hf
            clear hsep hlt
            refine Box.mk ?_
            simp only [List.drop_succ_cons, List.drop_zero, fill, Act.put, Nat.reduceAdd, List.setIfInBounds_toArray, List.set_cons_zero, List.set_cons_succ, h0, h1, h2, h3, h4, h5, h6, h7, h8]
            clear h0 h1 h2 h3 h4 h5 h6 h7 h8
            have hgg : gf ≠ g8 ∧ gin ≠ g8 := by have := HBR3.out.lt; omega
            obtain ⟨⟨_, _, _, _, k0, k1, k2, k3⟩, k4⟩ := q8.facts
            have hsk4 := HSK3.out.ext ex
            have hbr4 := HBR3.out.ext ex
            have hex4 := HEX3.out.trans ex
            have z8w : W.heap.size ≤ g8 := Nat.le_trans HEX3.out.size z8
            have Q8 := Lib.hid q8; have HSK4 := Lib.hid hsk4; have HBR4 := Lib.hid hbr4; have HEX4 := Lib.hid hex4; clear q8 hsk4 hbr4 hex4 ex
            have g8lt := Q8.out.lt
            go_wp2_with fail
            refine NoPanic.normal ?_
            clear k0 k1 k2 k3 k4
            have hq5 : Q4 ((((X.setCell ⟨g8, 0, none⟩ (.int .i64 x.dx)).setCell ⟨g8, 1, none⟩ (.int .i64 x.dy)).setCell ⟨g8, 2, none⟩ (.int .i64 x.t)).setCell ⟨g8, 3, none⟩ (.bool x.f)) g8 (.int .i64 x.dx) (.int .i64 x.dy) (.int .i64 x.t) (.bool x.f) := Q4.put Q8.out _ _ _ _
            have hsk5 : Sr ((((X.setCell ⟨g8, 0, none⟩ (.int .i64 x.dx)).setCell ⟨g8, 1, none⟩ (.int .i64 x.dy)).setCell ⟨g8, 2, none⟩ (.int .i64 x.t)).setCell ⟨g8, 3, none⟩ (.bool x.f)) W.heap.size gf cap ts := ((((HSK4.out.far (fun e => hgg.1 e.symm)).far (fun e => hgg.1 e.symm)).far (fun e => hgg.1 e.symm)).far (fun e => hgg.1 e.symm))
            have hbr5 : Br ((((X.setCell ⟨g8, 0, none⟩ (.int .i64 x.dx)).setCell ⟨g8, 1, none⟩ (.int .i64 x.dy)).setCell ⟨g8, 2, none⟩ (.int .i64 x.t)).setCell ⟨g8, 3, none⟩ (.bool x.f)) gin bs := (((HBR4.out.far hgg.2).far hgg.2).far hgg.2).far hgg.2
            have hex5 := HEX4.out.sc4 z8w (p := 0) (q := 1) (r := 2) (s := 3) (.int .i64 x.dx) (.int .i64 x.dy) (.int .i64 x.t) (.bool x.f)
            generalize ((((X.setCell ⟨g8, 0, none⟩ (.int .i64 x.dx)).setCell ⟨g8, 1, none⟩ (.int .i64 x.dy)).setCell ⟨g8, 2, none⟩ (.int .i64 x.t)).setCell ⟨g8, 3, none⟩ (.bool x.f)) = X5 at *
            have g8lt5 := hq5.lt
            obtain ⟨t0, t1, t2, t3⟩ := id hq5
            have HQ5 := Lib.hid hq5; have HSK5 := Lib.hid hsk5; have HBR5 := Lib.hid hbr5; have HEX5 := Lib.hid hex5; clear hq5 hsk5 hbr5 hex5 Q8 HSK4 HBR4 HEX4 g8lt
            go_wp2_with fail
            refine (HNB2.out _).mono ?_
            rintro e V6 ⟨rfl, hx⟩
            have hbr6 := HBR5.out.ext hx
            have hblen : bs.length = NN := by rw [HNNE.out]; exact HKJ.out.1.len
            have cb := hbr6.cell (j := nn) (by omega)
            have HBR6 := Lib.hid hbr6; have HBL := Lib.hid hblen; have HX6 := Lib.hid (Ext.of hx); clear hbr6 hblen hx t0 t1 t2 t3
            obtain ⟨t0, t1, t2, t3⟩ := HQ5.out.ext g8lt5 HX6.out
            have g8lt6 : g8 < V6.heap.size := Nat.lt_of_lt_of_le g8lt5 HX6.out.size
            cases hb0 : bs.getD nn false
            · rw [hb0] at cb
              have HB0 := Lib.hid hb0; clear hb0
              go_wp2_with fail
              refine (HNB2.out _).mono ?_
              rintro e V7 ⟨rfl, hx⟩
              have hbr7 := HBR6.out.ext hx
              have hsk7 := HSK5.out.ext (HX6.out.trans hx)
              have hex7 := HEX5.out.trans (HX6.out.trans hx)
              have hq7 := (HQ5.out.ext g8lt5 HX6.out).ext g8lt6 hx
              have g8lt7 : g8 < V7.heap.size := Nat.lt_of_lt_of_le g8lt6 (Ext.size hx)
              clear t0 t1 t2 t3 cb
              have fb := hbr7.frozen
              have cb := hbr7.cell (j := nn) (by rw [HBL.out]; exact hbd)
              have hz4 : (V7.setCell ⟨gin, nn, none⟩ (.bool true)).heap.size = V7.heap.size := by simp [World.setCell]
              have hbr8 := hbr7.set nn true
              have hsk8 := hsk7.far (i := nn) (u := .bool true) hne
              have hex8 := hex7.sc (i := nn) (v := .bool true) hgin
              have hq8 : Q4 (V7.setCell ⟨gin, nn, none⟩ (.bool true)) g8 _ _ _ _ := hq7.off (fun e => hgg.2 e.symm)
              have hgf8 := hsk7.cap_.2.2.2
              have hgi8 := hbr7.lt
              have HBR8 := Lib.hid hbr8; have HSK8 := Lib.hid hsk8; have HEX8 := Lib.hid hex8; have HQ8 := Lib.hid hq8; have HZ4 := Lib.hid hz4
              have hbase := hex7.size
              clear hbr7 hsk7 hex7 hq7 hbr8 hsk8 hex8 hq8 hz4 hx
              obtain ⟨t0, t1, t2, t3⟩ := HQ8.out
              have hown : ((V7.setCell ⟨gin, nn, none⟩ (.bool true)).alloc (.cells #[.int .i64 x.dx, .int .i64 x.dy, .int .i64 x.t, .bool x.f] 26)).ownsRow W.heap.size 26 4 (.slice (some ⟨gf, 0, none⟩) n cap) n (ts.flatMap mc) := by
                have := World.ownsRow.alloc HSK8.out (.cells #[.int .i64 x.dx, .int .i64 x.dy, .int .i64 x.t, .bool x.f] 26)
                rwa [← HN.out] at this
              go_wp2_with (at_builtin; refine wpList_append_lies _ rfl _ _ 50 rfl W.heap.size 26 i0 (.agg #[.int .i64 0, .int .i64 0, .int .i64 0, .bool false]) 4 32 Try.underlying50 hi hz0 hz1 hz2 rfl (by decide) _ n _ rfl hown ⟨V7.heap.size, 0, none⟩ 1 1 (mc x) rfl rfl ?c1 ?c2 (by omega) ?c3 ?c4 ?c5 _ rfl ?_)
              case c1 =>
                intro j u hj
                match j, hj with
                | 0, hj => simp [mc] at hj; subst hj; simp [Addr.add]; rw [World.cell?_alloc_at _ _ _ _ (by simp [World.setCell])]; rfl
                | 1, hj => simp [mc] at hj; subst hj; simp [Addr.add]; rw [World.cell?_alloc_at _ _ _ _ (by simp [World.setCell])]; rfl
                | 2, hj => simp [mc] at hj; subst hj; simp [Addr.add]; rw [World.cell?_alloc_at _ _ _ _ (by simp [World.setCell])]; rfl
                | 3, hj => simp [mc] at hj; subst hj; simp [Addr.add]; rw [World.cell?_alloc_at _ _ _ _ (by simp [World.setCell])]; rfl
                | j + 4, hj => simp [mc] at hj
              case c2 => intro u hu; simp [mc] at hu; rcases hu with rfl | rfl | rfl | rfl <;> rfl
              case c3 => unfold maxLen; omega
              case c4 => omega
              case c5 => simp; omega
              intro g cp w9 hown' hgrow hat hlt9
              have hz5 : ((V7.setCell ⟨gin, nn, none⟩ (.bool true)).alloc (.cells #[.int .i64 x.dx, .int .i64 x.dy, .int .i64 x.t, .bool x.f] 26)).heap.size = V7.heap.size + 1 := by simp
              have hggn : g = gf ∨ g = V7.heap.size + 1 := by
                rcases hat with h1 | h1
                · left; simpa [Value.ownBlock] using h1.symm
                · right; exact h1
              have hsk9 : Sr w9 W.heap.size g cp (ts ++ [x]) := by
                unfold Sr
                rw [List.length_append, List.length_singleton, List.flatMap_append, ← HN.out]
                simpa using hown'
              have hbr9 : Br w9 gin (bs.set nn true) := (HBR8.out.ext ((Ext.refl _).alc _)).grown hgrow (by simp [Value.ownBlock]; exact hne)
              have he9 : Ext W w9 := Below.grown (HEX8.out.alc (.cells #[.int .i64 x.dx, .int .i64 x.dy, .int .i64 x.t, .bool x.f] 26)) hgrow (by simp; omega) (fun k hk => by have := (hown.lt k hk).1; omega)
              have hcf := Cf_set (bs := bs) (n := nn) (by rw [HBL.out]; exact hbd) HB0.out
              have hkj9 : KJ w h l (bs.set nn true) ((ts ++ [x]).drop (i1 + 1)) last (j + 1) := by rw [List.drop_append_of_le_length (by rw [← HN.out]; omega)]; exact HKN.out
              have hfin : Hid (RJ W w h NN l gin i1 last (j + 1) (.slice (some ⟨g, 0, none⟩) (n + 1) cp) w9) := Lib.hid ⟨g, cp, bs.set nn true, ts ++ [x], by rw [List.length_append, List.length_singleton, ← HN.out], by rw [List.length_append, List.length_singleton, ← HN.out]; omega, by rw [List.getElem?_append_left (by rw [← HN.out]; exact hit2)]; exact HLAST.out, by rw [List.length_append, List.length_singleton, ← HN.out]; omega, hsk9, hbr9, by omega, he9, hkj9⟩
              clear hsk9 hbr9 he9 hkj9 hcf hown' hgrow hat hown t0 t1 t2 t3 cb fb hz5
              go_wp2_with fail
              go_roundw
              case rel => exact ⟨j + 1, by go_num, by omega, hfin.out⟩
              case measure => simp [intOf]; omega
            · rw [hb0] at cb
              have HB0 := Lib.hid hb0; clear hb0
              go_wp2_with fail
              go_roundw
              case rel => exact ⟨j + 1, by go_num, by omega, gf, cap, bs, ts, by rw [← HN.out], by rw [← HN.out]; exact hit2, HLAST.out, by rw [← HN.out]; exact hmeas, HSK5.out.ext HX6.out, HBR6.out, hne, HEX5.out.trans HX6.out, HKO.out HB0.out⟩
              case measure => simp [intOf]; omega
        · obtain rfl : j = N := by omega
          have hko : KO w h l bs (ts.drop (i1 + 1)) := by
            have := HKJ.out
            rw [HLEN.out] at this
            exact this.done
          have HKO := Lib.hid hko; clear hko
          go_wp2_with fail
          go_roundw
          case rel => exact ⟨i1 + 1, by go_num, gf, cap, bs, ts, by rw [← HN.out], by rw [← HN.out]; omega, by rw [← HN.out]; exact hmeas, HSK.out, HBR.out, hne, HEX.out, HKO.out⟩
          case measure => simp [intOf]; omega
    · obtain rfl : i1 = n := by omega
      have hdrop : ts.drop i1 = [] := List.drop_eq_nil_of_le (by rw [← HN.out]; exact Nat.le_refl _)
      have hko := HKO.out
      rw [hdrop] at hko
      obtain ⟨hgb, -⟩ := hko.gb HS.out HALL.out
      have hfe := fo_end hgb
      have HFE := Lib.hid hfe
      have hblen : Hid (bs.length = NN) := Lib.hid (by rw [HNNE.out]; exact hgb.1)
      clear hdrop hko hgb hfe HKO hlt hit
      have hpos : 0 < mv.length := by rw [HMVE.out]; exact List.length_pos_of_mem (mvs_mem.2 (one_has HS.out))
      obtain ⟨wo, rfl⟩ : ∃ wo : World, wo = wr := ⟨_, rfl⟩
      go_wp2_with fail
      refine (HMV.out _).mono ?_
      rintro e V2 ⟨v, rfl, hml2, hx⟩
      have hml3 := hml2
      obtain ⟨A2, c2, rfl, hq1, hq2, -⟩ := hml3
      obtain ⟨b2, off2, rfl, hb2, hc2⟩ := hml2.cm hpos
      have hex2 := HEX.out.trans hx
      have hbr2 := HBR.out.ext hx
      have HEX2 := Lib.hid hex2; have HBR2 := Lib.hid hbr2; have HC2 := Lib.hid hc2; clear hex2 hbr2 hc2 hml2 hx HBR HEX HMV HSK
      rw [← HMVE.out] at HFE
      obtain ⟨nM, hnM⟩ : ∃ nM, nM = mv.length := ⟨_, rfl⟩
      rw [← hnM] at hmvl hpos hq1 HFE ⊢
      have HNM := Lib.hid hnM; clear hnM
      go_wp2_with fail
      go_loopw [13, 68] (fun v i wr => ∃ k : Nat, i = .int .i64 k ∧ k ≤ nM ∧ FO V2 w h bs k v wr) (fun _ i _ => nM - (intOf i).toNat)
      case atStart => exact ⟨0, rfl, by omega, ⟨by simp [fo], .inl ⟨rfl, by simp [fo]⟩⟩, Ext.refl _⟩
      case round =>
        obtain ⟨k, rfl, hk, hfo⟩ := hrel
        have HFO := Lib.hid hfo; clear hfo
        by_cases hlk : k < nM
        · obtain ⟨m, hm⟩ : ∃ m, mv[k]? = some m := ⟨mv[k]'(by rw [← HNM.out]; exact hlk), List.getElem?_eq_getElem _⟩
          obtain ⟨d0, d1, d2, d3⟩ := (HC2.out.ext hb2 HFO.out.2) k m hm
          have hmh : has w h m = true := mvs_mem.1 (by rw [← HMVE.out]; exact List.mem_of_getElem? hm)
          have hbd := HBD.out m hmh
          have hms : (mvs w h (pos w h 2 0 0 0))[k]? = some m := by rw [← HMVE.out]; exact hm
          have hnb2 := fun X => HNB.out m X hmh
          have hfy := fun hb => fo_yes (bs := bs) hms hb
          have hfn := fun hb => fo_no (bs := bs) hms hb
          obtain ⟨nn, hnn⟩ : ∃ nn, nn = nm w h m := ⟨_, rfl⟩
          simp only [← hnn] at hnb2
          rw [← hnn] at hbd hfy hfn
          have HNB2 := Lib.hid hnb2; have HFY := Lib.hid hfy; have HFN := Lib.hid hfn; clear hnb2 hfy hfn hms hm hmh hnn
          have hq := q4_new wr (.int .i64 m.dx) (.int .i64 m.dy) (.int .i64 m.t) (.bool m.f) 26
          have hqs : wr.heap.size < (wr.alloc (.cells #[.int .i64 m.dx, .int .i64 m.dy, .int .i64 m.t, .bool m.f] 26)).heap.size := by simp
          have HQ := Lib.hid hq; have HQS := Lib.hid hqs; clear hq hqs
          go_wp2_with fail
          refine (HNB2.out _).mono ?_
          rintro e V ⟨rfl, hx⟩
          have e1 : Ext wr V := nx ((Ext.refl wr).alc _) hx
          have hq2 := HQ.out.ext HQS.out hx
          have hqlt : wr.heap.size < V.heap.size := by have := Ext.size hx; have := HQS.out; omega
          have hbr3 := HBR2.out.ext (HFO.out.2.trans e1)
          have cb := hbr3.cell (j := nn) (by rw [hblen.out]; exact hbd)
          have E1 := Lib.hid e1; have HQ2 := Lib.hid hq2; clear e1 hx hq2 hbr3 d0 d1 d2 d3
          cases hb0 : bs.getD nn false
          · rw [hb0] at cb
            have hnx := HFN.out hb0
            have HNX := Lib.hid hnx; clear hnx hb0
            go_wp2_with fail
            go_roundw
            case rel => exact ⟨k + 1, by go_num, by omega, by unfold FO; rw [HNX.out]; exact ⟨World.ownsRow.ext HFO.out.1 E1.out, HFO.out.2.trans E1.out⟩⟩
            case measure => simp [intOf]; omega
          · rw [hb0] at cb
            have hnx := HFY.out hb0
            have HNX := Lib.hid hnx; clear hnx hb0
            obtain ⟨t0, t1, t2, t3⟩ := HQ2.out
            have hown := (World.ownsRow.ext HFO.out.1 E1.out).alloc (.cells #[.int .i64 m.dx, .int .i64 m.dy, .int .i64 m.t, .bool m.f] 26)
            have hbase := (HFO.out.2.trans E1.out).size
            have hfl := fo_len w h bs k
            go_wp2_with (at_builtin; refine wpList_append_own _ rfl _ _ 50 rfl V2.heap.size 26 i0 (.agg #[.int .i64 0, .int .i64 0, .int .i64 0, .bool false]) 4 32 Try.underlying50 hi hz0 hz1 hz2 rfl (by decide) _ _ _ rfl hown ⟨V.heap.size, 0, none⟩ 1 1 (mc m) rfl rfl ?c1 ?c2 ?c3 ?c4 ?c5 ?_)
            case c1 =>
              intro j u hj
              match j, hj with
              | 0, hj => simp [mc] at hj; subst hj; simp [Addr.add]
              | 1, hj => simp [mc] at hj; subst hj; simp [Addr.add]
              | 2, hj => simp [mc] at hj; subst hj; simp [Addr.add]
              | 3, hj => simp [mc] at hj; subst hj; simp [Addr.add]
              | j + 4, hj => simp [mc] at hj
            case c2 => intro u hu; simp [mc] at hu; rcases hu with rfl | rfl | rfl | rfl <;> rfl
            case c3 => unfold maxLen; omega
            case c4 => omega
            case c5 => simp; omega
            intro v' w9 hown' hgrow _
            have e9 : Ext V2 w9 := Below.grown ((HFO.out.2.trans E1.out).alc (.cells #[.int .i64 m.dx, .int .i64 m.dy, .int .i64 m.t, .bool m.f] 26)) hgrow (by simp; omega) (fun k hk => by have := (hown.lt k hk).1; omega)
            have hfr : Hid (FO V2 w h bs (k + 1) v' w9) := Lib.hid (by
              unfold FO
              rw [HNX.out, List.length_append, List.length_singleton, List.flatMap_append]
              exact ⟨by simpa using hown', e9⟩)
            clear e9 hown' hgrow hown t0 t1 t2 t3 cb
            go_wp2_with fail
            go_roundw
            case rel => exact ⟨k + 1, by go_num, by omega, hfr.out⟩
            case measure => simp [intOf]; omega
        · obtain rfl : k = nM := by omega
          go_wp2
          go_ret
          refine ⟨_, rfl, ?_, HEX2.out.trans HFO.out.2⟩
          have := Ml.of_own HFO.out.1
          rwa [HFE.out] at this
theorem closeR_any (w h : Nat) (v : Value) (l : List Mv) (W : World) (hs : okSize w h = true) (hall : ∀ m ∈ l, has w h m = true) (hml : Ml W v l) (hN : l.length ≤ 1000) :
    Calls Try.prog 35 #[.int .i64 w, .int .i64 h, v] W fun e W' => ∃ v, e = .returned v ∧ Ml W' v (grp w h l) ∧ Ext W W' := by
  have h0 := hml
  obtain ⟨A, c, rfl, -⟩ := h0
  exact closeR_c w h A l.length c l W hs hall hml hN
end Go.Proofs.Ytgjanbgehbpciaa
