/- Walks: madeOf. -/
import Derived.Test.YtgjanbgehbpciaaC2
namespace Go.Proofs.Ytgjanbgehbpciaa
open Go.RowKit

/-- at the outer loop's head -/
def MO (W1 : World) (w h : Nat) (ms : List Mv) (gin : Nat) (g : Nat) (v : Value) (wr : World) : Prop :=
  ∃ gf cap bs fs, v = .slice (some ⟨gf, 0, none⟩) fs.length cap ∧ g ≤ 1024 ∧ 2 * Cf bs + fs.length ≤ g ∧ Stk wr W1.heap.size gf cap fs ∧ Br wr gin bs ∧ gin ≠ gf ∧ Ext W1 wr ∧ KO w h ms bs fs
/-- at the inner loop's head -/
def MJ (W1 : World) (w h : Nat) (ms : List Mv) (gin g7 : Nat) (g : Nat) (last : Mv) (j : Nat) (v : Value) (wr : World) : Prop :=
  ∃ gf cap bs fs, v = .slice (some ⟨gf, 0, none⟩) fs.length cap ∧ 2 * Cf bs + fs.length + 1 ≤ g ∧ Stk wr W1.heap.size gf cap fs ∧ Br wr gin bs ∧ gin ≠ gf ∧ Ext W1 wr ∧ Q4 wr g7 (.int .i64 last.dx) (.int .i64 last.dy) (.int .i64 last.t) (.bool last.f) ∧ g7 ≠ gf ∧ g7 ≠ gin ∧ g7 < wr.heap.size ∧ KJ w h ms bs fs last j

set_option maxHeartbeats 4000000 in
set_option maxRecDepth 100000 in
theorem madeOf_c (w h : Nat) (A : Option Addr) (N c : Nat) (ms : List Mv) (W : World) (hs : okSize w h = true) (hms : ∀ m ∈ ms, has w h m = true) (hml : Ml W (.slice A N c) ms) (hN5 : N ≤ 100000) :
    Calls Try.prog 86 #[.agg #[.int .i64 w, .int .i64 h], .slice A N c] W fun e W' => ∃ g bs, e = .returned (.slice (some ⟨g, 0, none⟩) (pos w h 2 0 0 0) (pos w h 2 0 0 0)) ∧ Br W' g bs ∧ GB w h ms bs ∧ (∀ n, bs.getD n false = true → has w h (dec w h n) = true) ∧ W.heap.size ≤ g ∧ Ext W W' := by
  have hs' := okSize_iff.1 hs
  have hNN := pos2_bd (w := w) (h := h) (by omega) (by omega)
  have hNN1 := nm_bd (one_has hs)
  obtain ⟨i0, hi, hz0, hz1, hz2⟩ := info_parts info31
  have hmk := make_bool (pos w h 2 0 0 0) (by omega)
  obtain ⟨NN, hNNe⟩ : ∃ NN, NN = pos w h 2 0 0 0 := ⟨_, rfl⟩
  have hnb := fun X => numbers_any w h X (by omega) (by omega)
  have hst := KO.start (ms := ms) hs
  rw [← hNNe] at hmk hNN hnb hNN1 ⊢
  have hN0 : 0 < NN := by omega
  have HNE := Lib.hid hNNe; have HNB := Lib.hid hnb; have HS := Lib.hid hs; have HMS := Lib.hid hms; have HML := Lib.hid hml; have HST := Lib.hid hst
  clear hNNe hnb hs hms hml hst hNN1 hs'
  have hlen : N = ms.length := HML.out.len
  have HLEN := Lib.hid hlen; clear hlen
  obtain ⟨ob, hob⟩ : ∃ ob : Obj, ob = .cells ((List.replicate NN false).map Value.bool).toArray 4 := ⟨_, rfl⟩
  rw [← hob] at hmk
  have HOB := Lib.hid hob; clear hob
  go_enter Try.func86, Try.ntmps86
  go_upto_region 1 with fail
  have q1 : C2 (W.alloc (.cells #[.int .i64 w, .int .i64 h] 84)) W.heap.size (.int .i64 w) (.int .i64 h) := by
    refine ⟨?_, ?_⟩ <;> (rw [World.cell?_alloc_new]; rfl)
  have bb := al1 W (.cells #[.int .i64 w, .int .i64 h] 84)
  have zz : (W.alloc (.cells #[.int .i64 w, .int .i64 h] 84)).heap.size = W.heap.size + 1 := by simp
  generalize (W.alloc (.cells #[.int .i64 w, .int .i64 h] 84)) = W1 at *
  have zle : W.heap.size < W1.heap.size := by omega
  have BB : Hid (Ext W W1) := Lib.hid bb; have H1 := Lib.hid q1
  clear bb zz
  obtain ⟨q0, q1'⟩ := q1
  go_wp2_with fail
  refine (HNB.out _).mono ?_
  rintro e V ⟨rfl, hx⟩
  have HV : Hid (Ext W1 V) := Lib.hid hx; clear hx q0 q1'
  go_upto_region 2 with fail
  have hb0 : Br (V.alloc ob) V.heap.size (List.replicate NN false) := by rw [HOB.out]; exact heap_alloc_new _ _
  have he0 : Ext W1 (V.alloc ob) := HV.out.alc _
  have hgin : W1.heap.size ≤ V.heap.size := HV.out.size
  obtain ⟨gin, hgi⟩ : ∃ gin, gin = V.heap.size := ⟨_, rfl⟩
  rw [← hgi] at hb0 hgin ⊢
  generalize V.alloc ob = V2 at *
  clear hgi hmk
  have f0 : ∀ o, V2.frozen? ⟨gin, o, none⟩ = false := fun o => hb0.frozen o
  have c0 := hb0.cell (j := 0) (by simp; exact hN0)
  have HB0 := Lib.hid hb0; have HE0 := Lib.hid he0; clear hb0 he0
  go_wp2_with fail
  clear c0 f0
  have hb1 : Br (V2.setCell ⟨gin, 0, none⟩ (.bool true)) gin ((List.replicate NN false).set 0 true) := HB0.out.set 0 true
  have he1 : Ext W1 (V2.setCell ⟨gin, 0, none⟩ (.bool true)) := HE0.out.sc hgin
  have hgz : gin < (V2.setCell ⟨gin, 0, none⟩ (.bool true)).heap.size := hb1.lt
  have hse : (V2.setCell ⟨gin, 0, none⟩ (.bool true)).heap.size = V2.heap.size := by simp [World.setCell]
  obtain ⟨sz, hsz⟩ : ∃ sz, sz = V2.heap.size := ⟨_, rfl⟩
  rw [← hsz] at hse ⊢
  generalize V2.setCell ⟨gin, 0, none⟩ (.bool true) = V3 at *
  subst hse
  clear hsz
  have HB1 := Lib.hid hb1; have HE1 := Lib.hid he1; clear hb1 he1 HB0 HE0
  have hsk : Stk (V3.alloc (.cells #[.int .i64 0, .int .i64 0, .int .i64 0, .bool false] 31)) W1.heap.size V3.heap.size 1 [Mv.one] :=
    ⟨rfl, .inr ⟨V3.heap.size, 1, #[.int .i64 0, .int .i64 0, .int .i64 0, .bool false], rfl, HE1.out.size, heap_alloc_new _ _, Nat.le_refl _, by unfold maxLen; omega, rfl, rfl⟩⟩
  have hbr := HB1.out.ext (Ext.alc (Ext.refl V3) (.cells #[.int .i64 0, .int .i64 0, .int .i64 0, .bool false] 31))
  have hex := HE1.out.alc (.cells #[.int .i64 0, .int .i64 0, .int .i64 0, .bool false] 31)
  have HSK := Lib.hid hsk; have HBR := Lib.hid hbr; have HEX := Lib.hid hex; clear hsk hbr hex
  go_loopg [6] (2 * NN) (fun g v wr => MO W1 w h ms gin g v wr)
  case atStart =>
    refine ⟨V3.heap.size, 1, _, [Mv.one], rfl, by omega, ?_, HSK.out, HBR.out, by omega, HEX.out, by rw [HNE.out]; exact HST.out⟩
    have hf : (List.replicate NN false).getD 0 false = false := by rw [List.getD_eq_getElem?_getD, List.getElem?_replicate]; split <;> rfl
    have h1 := Cf_set (bs := List.replicate NN false) (n := 0) (by simp; exact hN0) hf
    have h2 : Cf (List.replicate NN false) = NN := by unfold Cf; rw [List.countP_replicate]; simp
    simp only [List.length_singleton]
    omega
  case round =>
    obtain ⟨gf, cap, bs, fs, rfl, hgk, hmeas, hsk, hbr, hne, hex, hko⟩ := hrel
    clear HSK HBR HEX HB1 HE1
    have HSK := Lib.hid hsk; have HBR := Lib.hid hbr; have HEX := Lib.hid hex; have HKO := Lib.hid hko; clear hsk hbr hex hko
    rcases List.eq_nil_or_concat fs with hfs | ⟨fs', last, hfs⟩
    · subst hfs
      obtain ⟨hg1, hg2⟩ := HKO.out.gb HS.out HMS.out
      have G1 := Lib.hid hg1; have G2 := Lib.hid hg2; clear hg1 hg2
      simp only [List.length_nil] at HSK ⊢
      go_wp2
      go_ret
      exact ⟨gin, bs, by rw [HNE.out]; rfl, HBR.out, G1.out, G2.out, by omega, BB.out.trans HEX.out⟩
    · rw [List.concat_eq_append] at hfs
      subst hfs
      obtain ⟨k, hk⟩ : ∃ k, k = fs'.length := ⟨_, rfl⟩
      have hlast := HSK.out.last
      have hcap := HSK.out.cap
      have hpop := HSK.out.pop
      have hkj := HKO.out.pop
      simp only [List.length_append, List.length_singleton] at hmeas hlast hcap hpop hkj ⊢
      rw [← hk] at hlast hcap hmeas ⊢
      obtain ⟨l0, l1, l2, l3⟩ := hlast
      have HK := Lib.hid hk; have HPOP := Lib.hid hpop; have HKJ := Lib.hid hkj; clear hk hpop hkj HSK HKO
      obtain ⟨p1, p2, p3, p4⟩ := hcap
      go_wp2_with fail
      obtain ⟨wo, rfl⟩ : ∃ wo : World, wo = wr := ⟨_, rfl⟩
      have E7 : Hid (Ext wo (wo.alloc (.cells #[.int .i64 last.dx, .int .i64 last.dy, .int .i64 last.t, .bool last.f] 31))) := Lib.hid ((Ext.refl _).alc _)
      have hq7 : Q4 (wo.alloc (.cells #[.int .i64 last.dx, .int .i64 last.dy, .int .i64 last.t, .bool last.f] 31)) wo.heap.size (.int .i64 last.dx) (.int .i64 last.dy) (.int .i64 last.t) (.bool last.f) := by
        refine ⟨?_, ?_, ?_, ?_⟩ <;> (rw [World.cell?_alloc_new]; rfl)
      have HQ7 := Lib.hid hq7; clear hq7 l0 l1 l2 l3
      have hgin2 : gin < wo.heap.size := HBR.out.lt
      go_loopw [6, 35] (fun v i wr => ∃ j : Nat, i = .int .i64 j ∧ j ≤ N ∧ MJ W1 w h ms gin wo.heap.size gk last j v wr) (fun _ i _ => N - (intOf i).toNat)
      case atStart =>
        exact ⟨0, rfl, by omega, gf, cap, bs, fs', by rw [← HK.out], by rw [← HK.out]; omega, World.ownsRow.ext HPOP.out E7.out, HBR.out.ext E7.out, hne, HEX.out.trans E7.out, HQ7.out, by omega, by omega, by simp, HKJ.out⟩
      case round =>
        obtain ⟨j, rfl, hj, gf, cap, bs, fs, rfl, hmeas, hsk, hbr, hne, hex, hq7, h7f, h7i, h7l, hkj⟩ := hrel
        clear HPOP HBR HEX HQ7 HKJ HK E7
        have HSK := Lib.hid hsk; have HBR := Lib.hid hbr; have HEX := Lib.hid hex; have HQ7 := Lib.hid hq7; have HKJ := Lib.hid hkj; clear hsk hbr hex hq7 hkj
        obtain ⟨n, hn⟩ : ∃ n, n = fs.length := ⟨_, rfl⟩
        have hcap := HSK.out.cap
        rw [← hn] at hmeas hcap ⊢
        have HN := Lib.hid hn; clear hn
        by_cases hlt : j < N
        · obtain ⟨m, hm⟩ : ∃ m, ms[j]? = some m := ⟨ms[j]'(by rw [← HLEN.out]; exact hlt), List.getElem?_eq_getElem _⟩
          obtain ⟨A', c', e, -, -, hcell⟩ := HML.out
          injection e with e1 e2 e3
          obtain ⟨b, off, e4, hb, hc⟩ := hcell (by rw [← HLEN.out]; omega)
          rw [e4] at e1
          subst e1
          clear e2 e3 hcell e4
          obtain ⟨d0, d1, d2, d3⟩ := hc j m hm
          have E0 := Lib.hid (BB.out.trans HEX.out)
          replace d0 := keepAt E0.out hb d0; replace d1 := keepAt E0.out hb d1; replace d2 := keepAt E0.out hb d2; replace d3 := keepAt E0.out hb d3
          clear hc
          rw [← Nat.add_assoc] at d1 d2 d3
          obtain ⟨z0, z1⟩ := H1.out.ext zle HEX.out
          obtain ⟨l0, l1, l2, l3⟩ := HQ7.out
          have hszz : W.heap.size < wr.heap.size := Nat.lt_of_lt_of_le zle HEX.out.size
          have HM := Lib.hid hm; clear hm
          go_wp2_with fail
          have hmm : m ∈ ms := List.mem_of_getElem? HM.out
          have hlh : has w h last = true := HKJ.out.2.1
          refine (after_any w h m last _ HS.out (HMS.out m hmm) hlh).mono ?_
          rintro e V ⟨rfl, hx⟩
          have e1 : Ext wr V := nx ((Ext.refl wr).alc _) hx
          have hxh : has w h (aft w h m last) = true := aft_has HS.out (HMS.out m hmm) hlh
          have hkn := HKJ.out.new HS.out HMS.out HM.out
          have hko := fun (hb : bs.getD (nm w h (aft w h m last)) false = true) => HKJ.out.old HM.out hb
          have hnb := nm_bd hxh
          rw [← HNE.out] at hnb
          obtain ⟨x, hxe⟩ : ∃ x, x = aft w h m last := ⟨_, rfl⟩
          rw [← hxe] at hxh hkn hko hnb ⊢
          have HXH := Lib.hid hxh; have HKN := Lib.hid hkn; have HKO := Lib.hid hko; clear hxh hkn hko hxe hmm hlh
          have E1 := Lib.hid e1; clear e1 hx d0 d1 d2 d3 z0 z1 l0 l1 l2 l3
          obtain ⟨z0, z1⟩ := H1.out.ext zle (HEX.out.trans E1.out)
          have hszv : W.heap.size < V.heap.size := Nat.lt_of_lt_of_le hszz E1.out.size
          go_wp2_with fail
          refine (number_any w h x _ HS.out HXH.out).mono ?_
          rintro e V2 ⟨rfl, hx⟩
          have e2 : Ext V V2 := nx ((Ext.refl V).alc _) hx
          have hqx : Q4 (V.alloc (.cells #[.int .i64 x.dx, .int .i64 x.dy, .int .i64 x.t, .bool x.f] 31)) V.heap.size (.int .i64 x.dx) (.int .i64 x.dy) (.int .i64 x.t) (.bool x.f) := by
            refine ⟨?_, ?_, ?_, ?_⟩ <;> (rw [World.cell?_alloc_new]; rfl)
          have hqx2 := hqx.ext (by simp) hx
          have hvs : V.heap.size < V2.heap.size := by have := Ext.size hx; simp at this; omega
          have E2 := Lib.hid (E1.out.trans e2); have HQX := Lib.hid hqx2; clear e2 hx hqx hqx2 z0 z1
          have hbr2 := HBR.out.ext E2.out
          have hblen : bs.length = NN := by rw [HNE.out]; exact HKJ.out.1.len
          obtain ⟨nn, hnn⟩ : ∃ nn, nn = nm w h x := ⟨_, rfl⟩
          rw [← hnn] at hnb ⊢
          have HNN2 := Lib.hid hnn; clear hnn
          have cb := hbr2.cell (j := nn) (by omega)
          have fb := hbr2.frozen
          have HBR2 := Lib.hid hbr2; clear hbr2
          have HBL := Lib.hid hblen; clear hblen
          have hgne : gin ≠ V.heap.size := by have := HBR.out.lt; have := E1.out.size; omega
          have hgne' : V.heap.size ≠ gin := fun e => hgne e.symm
          cases hb0 : bs.getD nn false
          · rw [hb0] at cb
            have HB0' := Lib.hid hb0; clear hb0
            obtain ⟨t0, t1, t2, t3⟩ := HQX.out
            have hz4 : (V2.setCell ⟨gin, nn, none⟩ (.bool true)).heap.size = V2.heap.size := by simp [World.setCell]
            have hbr4 := HBR2.out.set nn true
            have hsk4 := (Stk.ext HSK.out E2.out).far (i := nn) (u := .bool true) hne
            have hq74 : Q4 (V2.setCell ⟨gin, nn, none⟩ (.bool true)) wo.heap.size _ _ _ _ := (HQ7.out.ext h7l E2.out).off h7i
            have he4 := (HEX.out.trans E2.out).sc (i := nn) (v := .bool true) hgin
            have hown : ((V2.setCell ⟨gin, nn, none⟩ (.bool true)).alloc (.cells #[.int .i64 x.dx, .int .i64 x.dy, .int .i64 x.t, .bool x.f] 31)).ownsRow W1.heap.size 31 4 (.slice (some ⟨gf, 0, none⟩) n cap) n (fs.flatMap mc) := by
              have := World.ownsRow.alloc hsk4 (.cells #[.int .i64 x.dx, .int .i64 x.dy, .int .i64 x.t, .bool x.f] 31)
              rwa [← HN.out] at this
            have h7l2 : wo.heap.size < V2.heap.size := Nat.lt_of_lt_of_le h7l E2.out.size
            have hgl2 : gin < V2.heap.size := HBR2.out.lt
            have hgf2 : gf < V2.heap.size := Nat.lt_of_lt_of_le hcap.2.2.2 E2.out.size
            have hbase := (HEX.out.trans E2.out).size
            have HBR4 := Lib.hid hbr4; have HQ74 := Lib.hid hq74; have HE4 := Lib.hid he4; have HZ4 := Lib.hid hz4; clear hbr4 hq74 he4 hz4 hsk4
            go_wp2_with (at_builtin; refine wpList_append_lies _ rfl _ _ 51 rfl W1.heap.size 31 i0 (.agg #[.int .i64 0, .int .i64 0, .int .i64 0, .bool false]) 4 32 Try.underlying51 hi hz0 hz1 hz2 rfl (by decide) _ n _ rfl hown ⟨V2.heap.size, 0, none⟩ 1 1 (mc x) rfl rfl ?c1 ?c2 (by omega) ?c3 ?c4 ?c5 _ rfl ?_)
            case c1 =>
              intro j u hj
              match j, hj with
              | 0, hj => simp [mc] at hj; subst hj; simp [Addr.add]; rw [World.cell?_alloc_at _ _ _ _ (by simp [World.setCell])]; rfl
              | 1, hj => simp [mc] at hj; subst hj; simp [Addr.add]; rw [World.cell?_alloc_at _ _ _ _ (by simp [World.setCell])]; rfl
              | 2, hj => simp [mc] at hj; subst hj; simp [Addr.add]; rw [World.cell?_alloc_at _ _ _ _ (by simp [World.setCell])]; rfl
              | 3, hj => simp [mc] at hj; subst hj; simp [Addr.add]; rw [World.cell?_alloc_at _ _ _ _ (by simp [World.setCell])]; rfl
              | j + 4, hj => simp [mc] at hj
            case c2 => intro u hu; simp [mc] at hu; rcases hu with rfl | rfl | rfl | rfl <;> rfl
            case c3 => unfold maxLen; omega
            case c4 => omega
            case c5 => simp; omega
            intro g cp w9 hown' hgrow hat hlt9
            have hz5 : ((V2.setCell ⟨gin, nn, none⟩ (.bool true)).alloc (.cells #[.int .i64 x.dx, .int .i64 x.dy, .int .i64 x.t, .bool x.f] 31)).heap.size = V2.heap.size + 1 := by simp
            have hgg : g = gf ∨ g = V2.heap.size + 1 := by
              rcases hat with h1 | h1
              · left; simpa [Value.ownBlock] using h1.symm
              · right; exact h1
            have hsk9 : Stk w9 W1.heap.size g cp (fs ++ [x]) := by
              unfold Stk
              rw [List.length_append, List.length_singleton, List.flatMap_append, ← HN.out]
              simpa using hown'
            have hbr9 : Br w9 gin (bs.set nn true) := (HBR4.out.ext ((Ext.refl _).alc _)).grown hgrow (by simp [Value.ownBlock]; exact hne)
            have hq9 : Q4 w9 wo.heap.size (.int .i64 last.dx) (.int .i64 last.dy) (.int .i64 last.t) (.bool last.f) := (HQ74.out.ext (by rw [HZ4.out]; exact h7l2) ((Ext.refl _).alc _)).grown (by rw [hz5]; omega) hgrow (by simp [Value.ownBlock]; exact h7f)
            have he9 : Ext W1 w9 := Below.grown (HE4.out.alc _) hgrow (by rw [hz5]; omega) (fun k hk => by simp [Value.ownBlock] at hk; omega)
            have hsz9 := hgrow.size
            rw [hz5] at hsz9
            have hcf : Cf (bs.set nn true) + 1 = Cf bs := Cf_set (by rw [HBL.out]; exact hnb) HB0'.out
            have hkj9 : KJ w h ms (bs.set nn true) (fs ++ [x]) last (j + 1) := by rw [HNN2.out]; exact HKN.out
            have hfin : Hid (MJ W1 w h ms gin wo.heap.size gk last (j + 1) (.slice (some ⟨g, 0, none⟩) (n + 1) cp) w9) := Lib.hid ⟨g, cp, bs.set nn true, fs ++ [x], by rw [List.length_append, List.length_singleton, ← HN.out], by rw [List.length_append, List.length_singleton, ← HN.out]; omega, hsk9, hbr9, by omega, he9, hq9, by omega, h7i, by omega, hkj9⟩
            clear hsk9 hbr9 hq9 he9 hkj9 hcf hown' hgrow hat hown t0 t1 t2 t3 cb fb hz5
            go_wp2_with fail
            go_roundw
            case rel => exact ⟨j + 1, by go_num, by omega, hfin.out⟩
            case measure => simp [intOf]; omega
          · rw [hb0] at cb
            have HB0' := Lib.hid hb0; clear hb0
            go_wp2_with fail
            go_roundw
            case rel =>
              exact ⟨j + 1, by go_num, by omega, gf, cap, bs, fs, by rw [← HN.out], by rw [← HN.out]; omega, World.ownsRow.ext HSK.out E2.out, HBR2.out, hne, HEX.out.trans E2.out, HQ7.out.ext h7l E2.out, h7f, h7i, Nat.lt_of_lt_of_le h7l E2.out.size, HKO.out (by rw [← HNN2.out]; exact HB0'.out)⟩
            case measure => simp [intOf]; omega
        · obtain rfl : j = N := by omega
          have hko : KO w h ms bs fs := by
            have := HKJ.out
            rw [HLEN.out] at this
            exact this.done
          have HKO := Lib.hid hko; clear hko
          go_wp2_with fail
          go_roundg (gk - 1)
          case rel => exact ⟨gf, cap, bs, fs, by rw [← HN.out], by omega, by rw [← HN.out]; omega, HSK.out, HBR.out, hne, HEX.out, HKO.out⟩
          case measure => omega
end Go.Proofs.Ytgjanbgehbpciaa
