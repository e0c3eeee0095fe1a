/- Walks: the rule of the rests. · Walks: the keeper of rests. -/
import Derived.Test.YtlachbodibajlaaDoorM3
import Derived.RegionTactic
import Derived.ChangeAlike
namespace Go.Proofs.YtlachbodibajlaaDoor
open Go.RowKit Go.Shelf
attribute [local go_sem] Oper.semAt_some

/-- a block of two cells -/
theorem two_c {w : World} {b : Nat} {t : TypeId} {x0 x1 : Value} (h : w.heap[b]? = some (.cells #[x0, x1] t (0, 0))) : w.cell? ⟨b, 0, none⟩ = some x0 ∧ w.cell? ⟨b, 1, none⟩ = some x1 ∧ b < w.heap.size ∧ ∀ o, w.frozen? ⟨b, o, none⟩ = false :=
  ⟨(cell_of_row w b 0 _ t (0, 0) h).trans rfl, (cell_of_row w b 1 _ t (0, 0) h).trans rfl, (Array.getElem?_eq_some_iff.1 h).1, fun o => by simp [World.frozen?, h]⟩
theorem two_set {w : World} {b : Nat} {t : TypeId} {x0 x1 : Value} (h : w.heap[b]? = some (.cells #[x0, x1] t (0, 0))) (y0 y1 : Value) : ((w.setCell ⟨b, 0, none⟩ y0).setCell ⟨b, 1, none⟩ y1).heap[b]? = some (.cells #[y0, y1] t (0, 0)) := by
  simp [World.setCell, Array.getElem?_modify, h]

/-- the blocks that a round may write -/
def Ex (g1 g2 b b' : Nat) : Prop := b' = g1 ∨ b' = g2 ∨ b' = b
/-- between two rounds -/
def RI (ws : List Bw.Word) (p : Nat) (W0 W : World) (kb g1 g2 gb s : Nat) (pre : List (It ws p)) (X : World) : Prop :=
  ∃ (t : List UInt8) (n : Int), X.heap[s + 1 + 1]? = some (.cells #[.string ⟨t.toArray⟩, .int .i64 n] 75 (0, 0)) ∧ (pre <+: its ws p 8 → t = (fld ws p pre).1 ∧ n = ((fld ws p pre).2 : Nat)) ∧
    Boxed X s 78 (.func (.func 55) #[.pointer (some ⟨kb, 0, none⟩)] #[]) ∧ X.heap[s + 1]? = some (.cells #[.string ⟨#[]⟩, .int .i64 0] 75 (0, 0)) ∧ Kq g1 g2 W X ∧ Ki ws W0 kb g1 g2 gb X ∧ s + 1 + 1 + 1 + 1 + 1 ≤ X.heap.size
theorem RI.own {ws : List Bw.Word} {p : Nat} {W0 W : World} {kb g1 g2 gb s B : Nat} (hs : s = W.heap.size) (hB : s + 1 + 1 < B) (hkb : kb < B) (hg1 : g1 < B) (hg2 : g2 < B) (l1 : W0.heap.size ≤ B) : OwnFrom B (RI ws p W0 W kb g1 g2 gb s) := by
  rintro pre X Y row ⟨t, n, h1, h2, h3, h4, h5, h6, h7⟩ hg hr
  have hb : ∀ k, k < B → k < X.heap.size → Y.heap[k]? = X.heap[k]? := fun k hk hX => hg.block k hX (fun e => by have := (hr k e.symm).1; omega)
  have hrr : ∀ r, row = some r → B ≤ r := fun r e => (hr r e).1
  have hl := h6.lt
  refine ⟨t, n, (hb _ hB (Array.getElem?_eq_some_iff.1 h1).1).trans h1, h2, (hb _ (by omega) h3.lt).trans h3, (hb _ (by omega) (Array.getElem?_eq_some_iff.1 h4).1).trans h4, h5.grow hg (fun r e => by have := hrr r e; omega), h6.move ?_ (fun b hb' => hb b (by omega) (by omega)), Nat.le_trans h7 hg.size⟩
  exact ⟨hg.os.trans h6.ext.os, hg.tape.trans h6.ext.tape, hg.output.trans h6.ext.output, Nat.le_trans h6.ext.size hg.size, fun b hb' => (hb b (by omega) (Nat.lt_of_lt_of_le hb' h6.ext.size)).trans (h6.ext.block b hb')⟩

theorem take1_more {u : List UInt8} {v : Nat} {l : UInt8} {b : List UInt8 × Nat} (h0 : b.2 ≠ 0) (h1 : u.length + 1 = b.1.length) : Bw.take1 (u, v) l b = (b.1, b.2 + v) := by
  unfold Bw.take1
  rw [if_neg (by rintro (h | h); exact h0 h; simp only at h; omega), if_pos h1]
theorem take1_same {u : List UInt8} {v : Nat} {l : UInt8} {b : List UInt8 × Nat} (h0 : b.2 ≠ 0) (h1 : ¬ u.length + 1 < b.1.length) (h2 : ¬ u.length + 1 = b.1.length) : Bw.take1 (u, v) l b = b := by
  unfold Bw.take1
  rw [if_neg (by rintro (h | h); exact h0 h; exact h1 h), if_neg h2]
theorem enc_letter {l : UInt8} (h : l ∈ Bw.letters) : Utf8.encode (l.toNat : Int) = ⟨#[l]⟩ := by
  have : ∀ l ∈ Bw.letters, Utf8.encode (l.toNat : Int) = ⟨#[l]⟩ := by decide
  exact this l h
theorem cons_bytes (l : UInt8) (u : List UInt8) : (⟨#[l]⟩ : ByteArray) ++ ⟨u.toArray⟩ = ⟨(l :: u).toArray⟩ := by
  apply ByteArray.ext
  simp [ByteArray.data_append]
theorem RI.next {ws : List Bw.Word} {p : Nat} {W0 W X X1 Y : World} {kb g1 g2 gb s : Nat} {pre : List (It ws p)} {x : It ws p} {t t' : List UInt8} {n n' : Int} (hs : s = W.heap.size) (hkb : kb < s ∧ g1 < s ∧ g2 < s) (hl1 : W0.heap.size ≤ s) (hl2 : W0.heap.size ≤ g1) (hl3 : W0.heap.size ≤ g2)
    (H1 : X.heap[s + 1 + 1]? = some (.cells #[.string ⟨t.toArray⟩, .int .i64 n] 75 (0, 0))) (H3 : Boxed X s 78 (.func (.func 55) #[.pointer (some ⟨kb, 0, none⟩)] #[])) (H4 : X.heap[s + 1]? = some (.cells #[.string ⟨#[]⟩, .int .i64 0] 75 (0, 0)))
    (H5 : Kq g1 g2 W X) (H6 : Ki ws W0 kb g1 g2 gb X) (H7 : s + 1 + 1 + 1 + 1 + 1 ≤ X.heap.size) (hk : Kq g1 g2 X X1) (hi : Ki ws W0 kb g1 g2 gb X1)
    (hY : Y.heap[s + 1 + 1]? = some (.cells #[.string ⟨t'.toArray⟩, .int .i64 n'] 75 (0, 0))) (ho : Y.os = X1.os ∧ Y.tape = X1.tape ∧ Y.output = X1.output ∧ X1.heap.size ≤ Y.heap.size) (hb : ∀ b, b < X1.heap.size → b ≠ s + 1 + 1 → Y.heap[b]? = X1.heap[b]?)
    (hv : pre ++ [x] <+: its ws p 8 → t' = (fld ws p (pre ++ [x])).1 ∧ n' = ((fld ws p (pre ++ [x])).2 : Nat)) :
    KeepsOthers X Y ∧ K3 (s + 1 + 1 + 1 + 1 + 1) (Ex g1 g2 (s + 1 + 1)) X Y ∧ RI ws p W0 W kb g1 g2 gb s (pre ++ [x]) Y := by
  have hbX : ∀ b, b < X.heap.size → b ≠ g1 → b ≠ g2 → b ≠ s + 1 + 1 → Y.heap[b]? = X.heap[b]? := fun b h1 h2 h3 h4 => (hb b (Nat.lt_of_lt_of_le h1 hk.size) h4).trans (hk.block b h1 h2 h3)
  have hsz : X.heap.size ≤ Y.heap.size := Nat.le_trans hk.size ho.2.2.2
  have hz : s + 1 + 1 < X.heap.size := (Array.getElem?_eq_some_iff.1 H1).1
  refine ⟨⟨hsz, fun k o hk1 ho1 => ?_⟩, ⟨fun b hb1 hb2 => ?_, hsz⟩, t', n', hY, hv, ?_, ?_, ?_, ?_, Nat.le_trans H7 hsz⟩
  · obtain ⟨kn, a, c, f1, f2, -⟩ := H6.known
    refine (hbX k (Array.getElem?_eq_some_iff.1 hk1).1 ?_ ?_ ?_).trans hk1
    · rintro rfl; unfold BB Bk at f1; rw [f1] at hk1; cases hk1; cases ho1
    · rintro rfl; unfold Bk at f2; rw [f2] at hk1; cases hk1; cases ho1
    · rintro rfl; rw [H1] at hk1; cases hk1; cases ho1
  · unfold Ex at hb2
    exact hbX b (by omega) (by omega) (by omega) (by omega)
  · exact (hbX s (by omega) (by omega) (by omega) (by omega)).trans H3
  · exact (hbX (s + 1) (by omega) (by omega) (by omega) (by omega)).trans H4
  · have h9 := H5.trans hk
    exact ⟨ho.1.trans h9.os, ho.2.1.trans h9.tape, ho.2.2.1.trans h9.output, Nat.le_trans h9.size ho.2.2.2, fun b hb1 hb2 hb3 => (hb b (Nat.lt_of_lt_of_le hb1 h9.size) (by omega)).trans (h9.block b hb1 hb2 hb3)⟩
  · exact hi.move ⟨ho.1.trans hi.ext.os, ho.2.1.trans hi.ext.tape, ho.2.2.1.trans hi.ext.output, Nat.le_trans hi.ext.size ho.2.2.2, fun b hb1 => (hb b (Nat.lt_of_lt_of_le hb1 hi.ext.size) (by omega)).trans (hi.ext.block b hb1)⟩ (fun b hb1 => hb b (by have := hi.lt; omega) (by omega))

set_option maxHeartbeats 4000000 in
set_option maxRecDepth 100000 in
theorem rule_step (ws : List Bw.Word) (V : Value) (W0 : World) (kb g1 g2 gb p : Nat) (hK : Kr ws V W0 kb g1 g2 gb) (hp : p < Bw.sz ws)
    (ih : ∀ q, q < Bw.sz ws → Bw.rem ws q < Bw.rem ws p → OfOk ws W0 kb g1 g2 gb q) : RuleOk ws W0 kb g1 g2 gb p := by
  intro W hI
  have HK := Lib.hid hK; have HI := Lib.hid hI; have HIH := Lib.hid ih; have HP := Lib.hid hp
  obtain ⟨hn1, h4, h8, hW⟩ := okWs_iff.1 hK.ok
  have H8 := Lib.hid h8; have H4 := Lib.hid h4; have HW := Lib.hid hW
  obtain ⟨A, c, rfl, hac, hcm, -⟩ := hK.sl
  have hpl := Nat.lt_of_lt_of_le hp (Bw.sz_le ws h4 h8)
  have hll := Nat.lt_of_lt_of_le (Bw.last_lt ws) (Bw.sz_le ws h4 h8)
  have cg := hI.ext.at hK.gb.lt hK.gb.cell
  have zg := Nat.lt_of_lt_of_le hK.gb.lt hI.ext.size
  clear hK hI ih hp h8 h4 hW hn1
  refine (callsIn_wide (n := 3)).1 ?_
  refine callsIn_of_wp_marks Tryd.func102 rfl trivial ?_ rfl
  simp only [Tryd.ntmps102, List.size_toArray, List.length_cons, List.length_nil, Nat.reduceAdd, Nat.reduceSub, Array.replicate_succ, Array.replicate_zero, List.push_toArray, List.append_toArray, List.nil_append, List.cons_append]
  gi_wp2
  refine ⟨trivial, ?_⟩
  have e2 : Ext W ((W.alloc (.cells #[.func (.func 55) #[.pointer (some ⟨kb, 0, none⟩)] #[]] 78)).alloc (.cells #[.string ⟨#[]⟩, .int .i64 0] 75)) := ((Ext.refl W).alc _).alc _
  have b1 : ((W.alloc (.cells #[.func (.func 55) #[.pointer (some ⟨kb, 0, none⟩)] #[]] 78)).alloc (.cells #[.string ⟨#[]⟩, .int .i64 0] 75)).heap[W.heap.size]? = some (.cells #[.func (.func 55) #[.pointer (some ⟨kb, 0, none⟩)] #[]] 78 (0, 0)) := (Below.heap_alloc _ _ _ (by simp)).trans (heap_alloc_new W _)
  have b2 := heap_alloc_new (W.alloc (.cells #[.func (.func 55) #[.pointer (some ⟨kb, 0, none⟩)] #[]] 78)) (.cells #[.string ⟨#[]⟩, .int .i64 0] 75)
  have z2 : ((W.alloc (.cells #[.func (.func 55) #[.pointer (some ⟨kb, 0, none⟩)] #[]] 78)).alloc (.cells #[.string ⟨#[]⟩, .int .i64 0] 75)).heap.size = W.heap.size + 1 + 1 := by simp
  simp only [World.size_alloc] at b2
  generalize (W.alloc (.cells #[.func (.func 55) #[.pointer (some ⟨kb, 0, none⟩)] #[]] 78)).alloc (.cells #[.string ⟨#[]⟩, .int .i64 0] 75) = X2 at *
  refine (callsIn_wide.2 (last_any ws _ _ (HK.out.sl.ext (HI.out.ext.trans e2)) H8.out H4.out)).mono ?_
  rintro e w1 ⟨rfl, rfl⟩
  obtain ⟨r0, r1, rz, rf⟩ := two_c b2
  have B1 := Lib.hid b1; have B2 := Lib.hid b2; have E2 := Lib.hid e2
  replace cg := e2.at zg cg
  clear b1 b2 e2
  by_cases he : p = Bw.last ws
  · subst he
    have hkr : Bw.rest ws (Bw.last ws) = ([], 1) := Bw.rest_last ws
    have HKR := Lib.hid hkr
    clear hkr
    gi_wp2
    have y2 := two_set B2.out (.string ⟨#[]⟩) (.int .i64 1)
    have k2 : Ext W ((w1.setCell ⟨W.heap.size + 1, 0, none⟩ (.string ⟨#[]⟩)).setCell ⟨W.heap.size + 1, 1, none⟩ (.int .i64 1)) := (E2.out.sc (by omega)).sc (by omega)
    generalize (w1.setCell ⟨W.heap.size + 1, 0, none⟩ (.string ⟨#[]⟩)).setCell ⟨W.heap.size + 1, 1, none⟩ (.int .i64 1) = Y at *
    obtain ⟨q0, q1, -, -⟩ := two_c y2
    refine ⟨.agg #[.string ⟨#[]⟩, .int .i64 1], ?_, by rw [HKR.out]; rfl, Kq.of g1 g2 k2, HI.out.ext' k2⟩
    simp [results, Tryd.f102, go_sem, q0, q1]
  · have hne : ((p : Int) == (Bw.last ws : Nat)) = false := by simp; omega
    have zg1 : gb < w1.heap.size := Nat.lt_of_lt_of_le zg E2.out.size
    have cg3 : (w1.alloc (.cells #[.string ⟨#[]⟩, .int .i64 0] 75)).cell? ⟨gb, 0, none⟩ = some (.slice A ws.length c) := (Ext.alc (Ext.refl w1) _).at zg1 cg
    gi_wp2
    refine ⟨trivial, ?_⟩
    refine (callsIn_wide.2 (moves_any ws p A ws.length c _)).mono ?_
    rintro e w5 ⟨rfl, rfl⟩
    gi_wp2
    have hlt := HI.out.lt
    have b3 : (((w1.alloc (.cells #[.string ⟨#[]⟩, .int .i64 0] 75)).alloc (.cells #[.slice A ws.length c] 70)).alloc (.cells #[.int .i64 p] 3)).heap[w1.heap.size]? = some (.cells #[.string ⟨#[]⟩, .int .i64 0] 75 (0, 0)) := (Below.heap_alloc _ _ _ (by simp; omega)).trans ((Below.heap_alloc _ _ _ (by simp)).trans (heap_alloc_new w1 _))
    have b4 : (((w1.alloc (.cells #[.string ⟨#[]⟩, .int .i64 0] 75)).alloc (.cells #[.slice A ws.length c] 70)).alloc (.cells #[.int .i64 p] 3)).heap[w1.heap.size + 1]? = some (.cells #[.slice A ws.length c] 70 (0, 0)) := by
      have h1 := heap_alloc_new (w1.alloc (.cells #[.string ⟨#[]⟩, .int .i64 0] 75)) (.cells #[.slice A ws.length c] 70)
      simp only [World.size_alloc] at h1
      exact (Below.heap_alloc _ _ _ (by simp)).trans h1
    have b5 := heap_alloc_new ((w1.alloc (.cells #[.string ⟨#[]⟩, .int .i64 0] 75)).alloc (.cells #[.slice A ws.length c] 70)) (.cells #[.int .i64 p] 3)
    simp only [World.size_alloc] at b5
    have e5 : Ext w1 (((w1.alloc (.cells #[.string ⟨#[]⟩, .int .i64 0] 75)).alloc (.cells #[.slice A ws.length c] 70)).alloc (.cells #[.int .i64 p] 3)) := (((Ext.refl w1).alc _).alc _).alc _
    have z5 : (((w1.alloc (.cells #[.string ⟨#[]⟩, .int .i64 0] 75)).alloc (.cells #[.slice A ws.length c] 70)).alloc (.cells #[.int .i64 p] 3)).heap.size = w1.heap.size + 1 + 1 + 1 := by simp
    rw [z2] at b3 b4 b5 z5
    obtain ⟨s, hs⟩ : ∃ s, s = W.heap.size := ⟨_, rfl⟩
    rw [← hs] at b3 b4 b5 z5 hlt z2 B1 B2 ⊢
    generalize ((w1.alloc (.cells #[.string ⟨#[]⟩, .int .i64 0] 75)).alloc (.cells #[.slice A ws.length c] 70)).alloc (.cells #[.int .i64 p] 3) = w5 at *
    have E5 : Hid (Ext W w5) := Lib.hid (E2.out.trans e5)
    have hl0 : W0.heap.size ≤ s := by rw [hs]; exact HI.out.ext.size
    have hSl : Sl w5 (.slice A ws.length c) ws := HK.out.sl.ext (HI.out.ext.trans E5.out)
    have hbk : ∀ A' n c', (Value.slice A ws.length c) = .slice A' n c' → ∀ b off, A' = some ⟨b, off, none⟩ → b < s + 1 + 1 + 1 + 1 + 1 ∧ ¬ Ex g1 g2 (s + 1 + 1) b := by
      intro A' n c' e b off eA
      injection e with e1 e2 e3
      subst eA
      subst e1
      obtain ⟨A9, c9, e9, -, -, h9⟩ := HK.out.sl
      injection e9 with e91 e92 e93
      obtain ⟨b9, o9, eA9, hb9, -⟩ := h9 (by have := (okWs_iff.1 HK.out.ok).1; omega)
      rw [eA9] at e91
      injection e91 with e91
      injection e91 with e91
      subst e91
      have := HK.out.l1; have := HK.out.l2
      exact ⟨by omega, fun h => by unfold Ex at h; omega⟩
    have hc3 := (two_c b3)
    refine wpIn_rangeFunc_ownF rfl (by decide) (gf := 124) (lb := #[.pointer (some ⟨s + 1 + 1 + 1, 0, none⟩), .pointer (some ⟨s + 1 + 1 + 1 + 1, 0, none⟩)]) rfl trivial (enters_of Tryd.func124 (by kernel_rfl) rfl)
      (moves1_stops 2 (by decide) (s + 1 + 1 + 1) (s + 1 + 1 + 1 + 1) (s + 1 + 1 + 1 + 1 + 1) p (Ex g1 g2 (s + 1 + 1)) ws (.slice A ws.length c) H8.out H4.out HP.out ⟨by omega, fun h => by unfold Ex at h; omega⟩ ⟨by omega, fun h => by unfold Ex at h; omega⟩ w5 (by omega) b4 b5 hSl hbk)
      K3.trans (fun X l o o' hl h _ _ => K3.put X l o o' (by omega) h) (Below.refl _ _) (fun _ => rfl)
      (RI ws p W0 W kb g1 g2 gb s) (fun _ _ _ => False) (RI.own hs (by omega) (by omega) (by omega) (by omega) (by omega)) (fun _ _ _ _ _ h _ _ => h)
      ⟨[], 0, b3, fun _ => ⟨rfl, rfl⟩, (e5.block s (by omega)).trans B1.out, (e5.block (s + 1) (by omega)).trans B2.out, Kq.of g1 g2 E5.out, HI.out.ext' E5.out, by omega⟩
      (fun x => { tmps := #[.func (.func 55) #[.pointer (some ⟨kb, 0, none⟩)] #[], .int .i64 p, .pointer (some ⟨gb, 0, none⟩), .pointer (some ⟨s, 0, none⟩), undef, .pointer (some ⟨s + 1, 0, none⟩), .pointer (some ⟨s + 1 + 1, 0, none⟩), .int .u8 ((lt x.1).toNat : Nat), .int .i64 (Bw.mv ws p (lt x.1) : Nat), undef, .int .i64 p, .slice A ws.length c, .int .i64 (Bw.last ws : Nat), .bool false, undef, .slice A ws.length c, .int .i64 p, .func (.func 124) #[] #[.pointer (some ⟨s + 1 + 1 + 1, 0, none⟩), .pointer (some ⟨s + 1 + 1 + 1 + 1, 0, none⟩)], .int .u8 ((lt x.1).toNat : Nat), .int .i64 (Bw.mv ws p (lt x.1) : Nat), undef, undef, undef, undef, undef, undef, undef, undef, undef, undef, undef, undef, undef, undef, undef, undef, undef, undef, undef, undef, undef, undef, undef, undef, undef, undef, undef, undef, undef, undef, undef, undef, undef, undef, undef, undef, undef, undef, undef, undef, undef], defers := [] }) ?assign ?body ?done ?stop
    case assign =>
      intro l x X K hK
      unfold encM
      gi_wp2
      rw [hs] at hK
      exact hK
    case stop =>
      intro D cd pre X hD _ h
      exact h.elim
    case done =>
      rintro D xs X hD rfl ⟨t, n, h1, h2, h3, h4, h5, h6, h7⟩ hdef
      obtain ⟨q1, q2⟩ := h2 (List.prefix_refl _)
      rw [fld_all HP.out he] at q1 q2
      obtain ⟨c0, c1, cz, -⟩ := two_c h1
      obtain ⟨d0, d1, dz, df⟩ := two_c h4
      have H5 := Lib.hid h5; have H6 := Lib.hid h6; have HD := Lib.hid hdef; have H4' := Lib.hid h4
      have HQ := Lib.hid (And.intro q1 q2)
      have hS := Lib.hid hs
      have hzD : s + 1 < D := by omega
      rw [hs] at c0 c1 cz d0 d1 dz df
      clear h1 h2 h3 h4 h5 h6 hdef q1 q2 b3 b4 b5 e5 hSl hbk hc3 cg cg3 r0 r1 rz rf
      gi_wp2
      have y4 := two_set H4'.out (.string ⟨t.toArray⟩) (.int .i64 n)
      have hK' := ((KeepsOthers.setCell X ⟨s + 1, 0, none⟩ (.string ⟨t.toArray⟩)).trans (KeepsOthers.setCell _ ⟨s + 1, 1, none⟩ (.int .i64 n))).same D _ HD.out rfl
      have k4 : Kq g1 g2 W ((X.setCell ⟨s + 1, 0, none⟩ (.string ⟨t.toArray⟩)).setCell ⟨s + 1, 1, none⟩ (.int .i64 n)) := (H5.out.sc _ (.inl (by omega))).sc _ (.inl (by omega))
      have i4 : Ki ws W0 kb g1 g2 gb ((X.setCell ⟨s + 1, 0, none⟩ (.string ⟨t.toArray⟩)).setCell ⟨s + 1, 1, none⟩ (.int .i64 n)) :=
        H6.out.move ((H6.out.ext.sc (by omega)).sc (by omega)) (fun b hb => (heap_far (by omega)).trans (heap_far (by omega)))
      rw [← hs]
      generalize (X.setCell ⟨s + 1, 0, none⟩ (.string ⟨t.toArray⟩)).setCell ⟨s + 1, 1, none⟩ (.int .i64 n) = Y at *
      refine ⟨by simp, .inl ⟨_, _, rfl, run_takeDeferred hK', ?_⟩⟩
      have hgp := grownBy_putObj' Y D (.deferred none)
      have hDY := (Array.getElem?_eq_some_iff.1 hK').1
      have y5 := (hgp.block (s + 1) (Array.getElem?_eq_some_iff.1 y4).1 (fun e => by injection e; omega)).trans y4
      have k5 := k4.grow hgp (fun r e => by injection e; omega)
      have i5 : Ki ws W0 kb g1 g2 gb (Y.putObj D (.deferred none)) := i4.move ⟨hgp.os.trans i4.ext.os, hgp.tape.trans i4.ext.tape, hgp.output.trans i4.ext.output, Nat.le_trans i4.ext.size hgp.size, fun b hb => (hgp.block b (Nat.lt_of_lt_of_le hb i4.ext.size) (fun e => by injection e; omega)).trans (i4.ext.block b hb)⟩ (fun b hb => hgp.block b (by have := i4.lt; omega) (fun e => by injection e; omega))
      obtain ⟨f0, f1, -, -⟩ := two_c y5
      refine ⟨.agg #[.string ⟨t.toArray⟩, .int .i64 n], ?_, by rw [HQ.out.1, HQ.out.2], k5, i5⟩
      simp [results, Tryd.f102, go_sem, f0, f1]
    case body =>
      rintro lo pre x X ⟨t, n, h1, h2, h3, h4, h5, h6, h7⟩ hlt8
      have hq := Bw.mv_lt ws p (lt x.1) HP.out
      have hcon := HIH.out _ hq (Bw.rem_lt x.2.2) X h6
      have hst := fld_snoc ws p pre x
      have hrm := rest_moved HK.out.ok HP.out x.2.2
      have hbd := fun h => fld_count HK.out.ok HP.out (l := pre ++ [x]) h
      unfold stp at hst
      generalize Bw.mv ws p (lt x.1) = q at *
      obtain ⟨u, hu⟩ : ∃ u, u = (Bw.rest ws q).1 := ⟨_, rfl⟩
      obtain ⟨v, hv⟩ : ∃ v, v = (Bw.rest ws q).2 := ⟨_, rfl⟩
      have huv : Bw.rest ws q = (u, v) := by rw [hu, hv]
      rw [huv] at hst
      simp only [← hu, ← hv] at hcon hrm
      have hul31 := hrm.2
      have HCON := Lib.hid hcon; have HST := Lib.hid hst; have HBD := Lib.hid hbd
      have H1 := Lib.hid h1; have H2 := Lib.hid h2; have H3 := Lib.hid h3; have H4' := Lib.hid h4; have H5 := Lib.hid h5; have H6 := Lib.hid h6
      have c3 := h3.cell
      have hxl := lt_mem x.2.1
      have hS := Lib.hid hs
      clear hcon hst hbd hrm h1 h2 h3 h4 h5 h6 hu hv huv hs b3 b4 b5 e5 hSl hbk hc3 cg cg3 r0 r1 rz rf
      generalize lt x.1 = l at *
      gi_wp2
      refine ⟨trivial, ?_⟩
      refine (CallsIn.inRound lo (callsIn_wide.2 HCON.out)).mono ?_
      rintro e X1 ⟨rfl, hk, hi⟩
      clear c3
      have e9 : Ext X1 (X1.alloc (.cells #[.string ⟨u.toArray⟩, .int .i64 v] 75)) := Ext.alc (Ext.refl _) _
      obtain ⟨d0, d1, dz, -⟩ := two_c (heap_alloc_new X1 (.cells #[.string ⟨u.toArray⟩, .int .i64 v] 75))
      have hbx := (e9.block (s + 1 + 1) (by have := hk.size; have := (Array.getElem?_eq_some_iff.1 H1.out).1; omega)).trans ((hk.block (s + 1 + 1) (Array.getElem?_eq_some_iff.1 H1.out).1 (by omega) (by omega)).trans H1.out)
      obtain ⟨c0, c1, cz, cf⟩ := two_c hbx
      have HK9 := Lib.hid hk; have HI9 := Lib.hid hi; have HBX := Lib.hid hbx
      clear hk hi hbx
      have henc := enc_letter hxl
      simp only []
      go_at_K
      by_cases hn0 : n = 0
      · subst hn0
        gi_wp2
        · rw [cons_bytes]
          have hY := two_set HBX.out (.string ⟨(l :: u).toArray⟩) (.int .i64 v)
          exact RI.next hS.out hlt hl0 HK.out.l1 HK.out.l2 H1.out H3.out H4'.out H5.out H6.out h7 HK9.out HI9.out hY ⟨e9.os, e9.tape, e9.output, by simp [World.setCell]⟩ (fun b hb hne => (heap_far hne).trans ((heap_far hne).trans (e9.block b hb))) (fun hp => by
            obtain ⟨-, h2⟩ := H2.out ((List.prefix_append _ _).trans hp)
            rw [HST.out]; unfold Bw.take1; rw [if_pos (Or.inl (by omega))]; exact ⟨rfl, rfl⟩)
      · have hn1 : (n == 0) = false := by simpa using hn0
        by_cases hul : u.length + 1 < t.length
        · have hul' : (u.length : Int) + 1 < (t.length : Int) := by omega
          gi_wp2
          · rw [cons_bytes]
            have hY := two_set HBX.out (.string ⟨(l :: u).toArray⟩) (.int .i64 v)
            exact RI.next hS.out hlt hl0 HK.out.l1 HK.out.l2 H1.out H3.out H4'.out H5.out H6.out h7 HK9.out HI9.out hY ⟨e9.os, e9.tape, e9.output, by simp [World.setCell]⟩ (fun b hb hne => (heap_far hne).trans ((heap_far hne).trans (e9.block b hb))) (fun hp => by
              obtain ⟨h2, -⟩ := H2.out ((List.prefix_append _ _).trans hp)
              rw [HST.out]; unfold Bw.take1; rw [if_pos (Or.inr (by rw [← h2]; exact hul))]; exact ⟨rfl, rfl⟩)
        · have HUL := Lib.hid hul
          obtain ⟨lu, hlu⟩ : ∃ a, u.length = a := ⟨_, rfl⟩
          obtain ⟨lt', hlt'⟩ : ∃ a, t.length = a := ⟨_, rfl⟩
          rw [hlu, hlt'] at hul
          have hul' : ¬ (lu : Int) + 1 < (lt' : Int) := by omega
          clear hul
          by_cases heq : u.length + 1 = t.length
          · have heq' : ((lu : Int) + 1 == (lt' : Int)) = true := by simp; omega
            obtain ⟨z, hz⟩ : ∃ z, IntKind.i64.wrap (n + (v : Int)) = z := ⟨_, rfl⟩
            have HEQ := Lib.hid heq
            clear heq
            gi_wp2
            have heq := HEQ.out
            have hul := HUL.out
            have hY : ((X1.alloc (.cells #[.string ⟨u.toArray⟩, .int .i64 v] 75)).setCell ⟨s + 1 + 1, 1, none⟩ (.int .i64 z)).heap[s + 1 + 1]? = some (.cells #[.string ⟨t.toArray⟩, .int .i64 z] 75 (0, 0)) := by
              have := HBX.out
              simp [World.setCell, Array.getElem?_modify, this]
            exact RI.next hS.out hlt hl0 HK.out.l1 HK.out.l2 H1.out H3.out H4'.out H5.out H6.out h7 HK9.out HI9.out hY ⟨e9.os, e9.tape, e9.output, by simp [World.setCell]⟩ (fun b hb hne => (heap_far hne).trans (e9.block b hb)) (fun hp => by
              obtain ⟨h2, h3⟩ := H2.out ((List.prefix_append _ _).trans hp)
              have hb := HBD.out hp
              rw [HST.out, take1_more (by omega) (by rw [← h2]; exact heq)] at hb ⊢
              refine ⟨h2, ?_⟩
              have hb2 : (fld ws p pre).2 + v ≤ 4 ^ 31 := hb
              rw [← hz, h3]
              exact IntWalk.i64_in _ (by omega))
          · have heq' : ((lu : Int) + 1 == (lt' : Int)) = false := by simp; omega
            have HEQ := Lib.hid heq
            clear heq
            gi_wp2
            have heq := HEQ.out
            have hul := HUL.out
            exact RI.next hS.out hlt hl0 HK.out.l1 HK.out.l2 H1.out H3.out H4'.out H5.out H6.out h7 HK9.out HI9.out HBX.out ⟨e9.os, e9.tape, e9.output, by simp⟩ (fun b hb hne => e9.block b hb) (fun hp => by
              obtain ⟨h2, h3⟩ := H2.out ((List.prefix_append _ _).trans hp)
              rw [HST.out, take1_same (by omega) (by rw [← h2]; exact hul) (by rw [← h2]; exact heq)]
              exact ⟨h2, h3⟩)
end Go.Proofs.YtlachbodibajlaaDoor
namespace Go.Proofs.YtlachbodibajlaaDoor
open Go.RowKit Go.Shelf

/-- a block of three cells -/
theorem three_c {w : World} {b : Nat} {t : TypeId} {x0 x1 x2 : Value} (h : w.heap[b]? = some (.cells #[x0, x1, x2] t (0, 0))) : w.cell? ⟨b, 0, none⟩ = some x0 ∧ w.cell? ⟨b, 1, none⟩ = some x1 ∧ w.cell? ⟨b, 2, none⟩ = some x2 ∧ b < w.heap.size :=
  ⟨(cell_of_row w b 0 _ t (0, 0) h).trans rfl, (cell_of_row w b 1 _ t (0, 0) h).trans rfl, (cell_of_row w b 2 _ t (0, 0) h).trans rfl, (Array.getElem?_eq_some_iff.1 h).1⟩

set_option maxHeartbeats 4000000 in
set_option maxRecDepth 100000 in
theorem of_step (ws : List Bw.Word) (V : Value) (W0 : World) (kb g1 g2 gb q : Nat) (hK : Kr ws V W0 kb g1 g2 gb) (hq : q < Bw.sz ws) (hR : RuleOk ws W0 kb g1 g2 gb q) : OfOk ws W0 kb g1 g2 gb q := by
  intro W hI
  have HK := Lib.hid hK; have HI := Lib.hid hI; have HR := Lib.hid hR
  obtain ⟨hn1, h4, h8, hW⟩ := okWs_iff.1 hK.ok
  have hpl := Nat.lt_of_lt_of_le hq (Bw.sz_le ws h4 h8)
  have hzl := Bw.sz_le ws h4 h8
  obtain ⟨N, hN⟩ : ∃ N, N = Bw.sz ws := ⟨_, rfl⟩
  have hkb := hI.kbk
  obtain ⟨kn, a, c, hB1, hB2, hval⟩ := hI.known
  have hlt := hI.lt
  rw [← hN] at hq hzl hkb hB1 hB2 hval
  have HN := Lib.hid hN
  clear hK hI hR h8 h4 hW hn1 hN
  have n12 := HK.out.n12; have nk1 := HK.out.nk1; have nk2 := HK.out.nk2
  go_enter Tryd.func55, Tryd.ntmps55
  go_upto_region 1 with fail
  have e1 : Ext W (W.alloc (.cells #[.string ⟨#[]⟩, .int .i64 0] 75)) := Ext.alc (Ext.refl _) _
  have hr := heap_alloc_new W (.cells #[.string ⟨#[]⟩, .int .i64 0] 75)
  obtain ⟨s, hs⟩ : ∃ s, s = W.heap.size := ⟨_, rfl⟩
  rw [← hs] at hr hlt ⊢
  replace hkb := (e1.block kb (by omega)).trans hkb
  replace hB1 := hB1.ext e1
  replace hB2 := hB2.ext e1
  generalize W.alloc (.cells #[.string ⟨#[]⟩, .int .i64 0] 75) = W1 at *
  obtain ⟨k0, k1, k2, kz⟩ := three_c hkb
  have v1 := Bk.cell hB1 hq
  have HB1 := Lib.hid hB1; have HB2 := Lib.hid hB2; have HKB := Lib.hid hkb; have E1 := Lib.hid e1; have HRS := Lib.hid hr; have HV := Lib.hid hval; have HS := Lib.hid hs
  clear hB1 hB2 hkb e1 hr hval hs
  cases hkn : kn q
  · rw [hkn] at v1
    go_wp2_with fail
    refine (HR.out _ (HI.out.ext' E1.out)).mono ?_
    rintro e w2 ⟨rfl, hk2, hi2⟩
    clear k0 k1 k2 kz v1
    obtain ⟨u, hu⟩ : ∃ u, u = (Bw.rest ws q).1 := ⟨_, rfl⟩
    obtain ⟨v, hv⟩ : ∃ v, v = (Bw.rest ws q).2 := ⟨_, rfl⟩
    simp only [← hu, ← hv]
    have e3 : Ext w2 (w2.alloc (.cells #[.string ⟨u.toArray⟩, .int .i64 v] 75)) := Ext.alc (Ext.refl _) _
    have z3 := heap_alloc_new w2 (.cells #[.string ⟨u.toArray⟩, .int .i64 v] 75)
    obtain ⟨kn', a', c', hB1, hB2, hval⟩ := hi2.known
    have hkb := hi2.kbk
    have hlt2 := hi2.lt
    have hrs := (hk2.block s (Array.getElem?_eq_some_iff.1 HRS.out).1 (by omega) (by omega)).trans HRS.out
    rw [← HN.out] at hB1 hB2 hval hkb
    replace hB1 := hB1.ext e3
    replace hB2 := hB2.ext e3
    replace hkb := (e3.block kb hlt2.1).trans hkb
    replace hrs := (e3.block s (Array.getElem?_eq_some_iff.1 hrs).1).trans hrs
    have hk3 := (Kq.of g1 g2 E1.out).trans (hk2.trans (Kq.of g1 g2 e3))
    have hx3 := hi2.ext.trans e3
    have hU := Lib.hid (And.intro hu hv)
    clear hu hv
    go_upto_region 3 with fail
    have zz : (w2.alloc (.cells #[.string ⟨u.toArray⟩, .int .i64 v] 75)).heap.size = w2.heap.size + 1 := by simp
    generalize w2.alloc (.cells #[.string ⟨u.toArray⟩, .int .i64 v] 75) = w3 at *
    obtain ⟨s2, hs2⟩ : ∃ s2, s2 = w2.heap.size := ⟨_, rfl⟩
    rw [← hs2] at zz z3 hlt2 ⊢
    obtain ⟨k0, k1, k2, kz⟩ := three_c hkb
    obtain ⟨d0, d1, dz, -⟩ := two_c z3
    have u0 := Bk.cell hB2 (show q * 2 < 2 * N by omega)
    have u1 := Bk.cell hB2 (show q * 2 + 1 < 2 * N by omega)
    have uf := Bk.free hB2
    have uz := Bk.lt hB2
    have HB1' := Lib.hid hB1; have HB2' := Lib.hid hB2; have HV' := Lib.hid hval; have HK3 := Lib.hid hk3; have HX3 := Lib.hid hx3; have HKB' := Lib.hid hkb; have HRS' := Lib.hid hrs
    clear hB1 hB2 hval hk3 hx3 hkb hrs hk2 hi2 e3 z3 hs2
    go_region
    have gB2 : Bk ((w3.setCell ⟨g2, q * 2, none⟩ (.string ⟨u.toArray⟩)).setCell ⟨g2, q * 2 + 1, none⟩ (.int .i64 v)).drew g2 75 (2 * N) (tw (fun p => .string ⟨(up a' q u p).toArray⟩) (fun p => .int .i64 (up c' q (v : Int) p))) := by
      refine Bk.congr (Bk.drew ((HB2'.out.set_ _ _).set_ _ _)) fun i _ => ?_
      rw [tw_up]
      congr 1
      · funext p; unfold up; split <;> rfl
      · funext p; unfold up; split <;> rfl
    have gB1 : BB ((w3.setCell ⟨g2, q * 2, none⟩ (.string ⟨u.toArray⟩)).setCell ⟨g2, q * 2 + 1, none⟩ (.int .i64 v)).drew g1 N kn' := (heap_far n12).trans ((heap_far n12).trans HB1'.out)
    have gkb := (heap_far (Y := w3.setCell ⟨g2, q * 2, none⟩ (.string ⟨u.toArray⟩)) (g := g2) (i := q * 2 + 1) (v := .int .i64 v) nk2).trans ((heap_far nk2).trans HKB'.out)
    have grs := (heap_far (Y := w3.setCell ⟨g2, q * 2, none⟩ (.string ⟨u.toArray⟩)) (g := g2) (i := q * 2 + 1) (v := .int .i64 v) (show s ≠ g2 by omega)).trans ((heap_far (by omega)).trans HRS'.out)
    have gK := ((HK3.out.sc (i := q * 2) (.string ⟨u.toArray⟩) (.inr (.inr rfl))).sc (i := q * 2 + 1) (.int .i64 v) (.inr (.inr rfl))).drw
    have gX : Ext W0 ((w3.setCell ⟨g2, q * 2, none⟩ (.string ⟨u.toArray⟩)).setCell ⟨g2, q * 2 + 1, none⟩ (.int .i64 v)).drew := ((HX3.out.sc HK.out.l2).sc HK.out.l2).drw
    replace gkb : ((w3.setCell ⟨g2, q * 2, none⟩ (.string ⟨u.toArray⟩)).setCell ⟨g2, q * 2 + 1, none⟩ (.int .i64 v)).drew.heap[kb]? = _ := gkb
    replace grs : ((w3.setCell ⟨g2, q * 2, none⟩ (.string ⟨u.toArray⟩)).setCell ⟨g2, q * 2 + 1, none⟩ (.int .i64 v)).drew.heap[s]? = _ := grs
    generalize ((w3.setCell ⟨g2, q * 2, none⟩ (.string ⟨u.toArray⟩)).setCell ⟨g2, q * 2 + 1, none⟩ (.int .i64 v)).drew = w4 at *
    clear k0 k1 k2 kz d0 d1 dz u0 u1 uf uz HB1' HB2' HKB' HRS' HK3 HX3 zz
    obtain ⟨k0, k1, k2, kz⟩ := three_c gkb
    have v1 := Bk.cell gB1 hq
    have vf := Bk.free gB1 q
    have vz := Bk.lt gB1
    have hB1n := BB.set_ gB1 q true
    have hB2n : Bk (w4.setCell ⟨g1, q, none⟩ (.bool true)) g2 75 (2 * N) (tw (fun p => .string ⟨(up a' q u p).toArray⟩) (fun p => .int .i64 (up c' q (v : Int) p))) := (heap_far (Ne.symm n12)).trans gB2
    have hkbn := (heap_far (Y := w4) (g := g1) (i := q) (v := .bool true) nk1).trans gkb
    have hrsn := (heap_far (Y := w4) (g := g1) (i := q) (v := .bool true) (show s ≠ g1 by omega)).trans grs
    have hKn := gK.sc (i := q) (.bool true) (.inr (.inl rfl))
    have hXn : Ext W0 (w4.setCell ⟨g1, q, none⟩ (.bool true)) := gX.sc HK.out.l1
    have HNX := Lib.hid (And.intro hB1n (And.intro hB2n (And.intro hkbn (And.intro hrsn (And.intro hKn hXn)))))
    clear hB1n hB2n hkbn hrsn hKn hXn gB1 gB2 gkb grs gK gX
    go_upto_region 5 with fail
    obtain ⟨hB1n, hB2n, hkbn, hrsn, hKn, hXn⟩ := HNX.out
    clear HNX
    generalize w4.setCell ⟨g1, q, none⟩ (.bool true) = w5 at *
    clear k0 k1 k2 kz v1 vf vz
    obtain ⟨k0, k1, k2, kz⟩ := three_c hkbn
    obtain ⟨r0, r1, rz, rf⟩ := two_c hrsn
    have u0 : w5.cell? ⟨g2, q * 2, none⟩ = some (.string ⟨u.toArray⟩) := by
      rw [Bk.cell hB2n (show q * 2 < 2 * N by omega), tw_0, up_self]
    have u1 : w5.cell? ⟨g2, q * 2 + 1, none⟩ = some (.int .i64 v) := by
      rw [Bk.cell hB2n (show q * 2 + 1 < 2 * N by omega), tw_1, up_self]
    have gr := two_set hrsn (.string ⟨u.toArray⟩) (.int .i64 v)
    have gK := (hKn.sc (q := s) (i := 0) (.string ⟨u.toArray⟩) (.inl (by have := HS.out; omega))).sc (q := s) (i := 1) (.int .i64 v) (.inl (by have := HS.out; omega))
    have gI : Ki ws W0 kb g1 g2 gb ((w5.setCell ⟨s, 0, none⟩ (.string ⟨u.toArray⟩)).setCell ⟨s, 1, none⟩ (.int .i64 v)) := by
      have hsW := HI.out.ext.size
      have hso := HS.out
      refine ⟨(hXn.sc (by omega)).sc (by omega), ?_, up kn' q true, up a' q u, up c' q v, ?_, ?_, fun p hp hk => ?_⟩
      · rw [← HN.out]; exact (heap_far (by omega)).trans ((heap_far (by omega)).trans hkbn)
      · rw [← HN.out]; exact (heap_far (by omega)).trans ((heap_far (by omega)).trans hB1n)
      · rw [← HN.out]; exact (heap_far (by omega)).trans ((heap_far (by omega)).trans hB2n)
      · by_cases e : p = q
        · subst e; rw [up_self, up_self, ← hU.out.1, ← hU.out.2]; exact ⟨rfl, rfl⟩
        · rw [up_ne _ _ e] at hk ⊢
          rw [up_ne _ _ e]
          exact HV'.out p (by rw [HN.out]; exact hp) hk
    have HG := Lib.hid (And.intro gr (And.intro gK gI))
    clear hB1n hB2n hkbn hrsn hKn hXn gr gK gI
    go_wp2
    obtain ⟨gr, gK, gI⟩ := HG.out
    generalize (w5.setCell ⟨s, 0, none⟩ (.string ⟨u.toArray⟩)).setCell ⟨s, 1, none⟩ (.int .i64 v) = w6 at *
    obtain ⟨f0, f1, -, -⟩ := two_c gr
    refine bodyPost_ret (v := .agg #[.string ⟨u.toArray⟩, .int .i64 v]) (by simp [results, Tryd.results55, go_sem, f0, f1]) rfl ?_
    exact ⟨by rw [hU.out.1, hU.out.2], gK, gI⟩
  · rw [hkn] at v1
    obtain ⟨ha, hc⟩ := HV.out q hq hkn
    have HAC := Lib.hid (And.intro ha hc)
    clear ha hc
    have u0 : W1.cell? ⟨g2, q * 2, none⟩ = some (.string ⟨(a q).toArray⟩) := by
      rw [Bk.cell HB2.out (show q * 2 < 2 * N by omega), tw_0]
    have u1 : W1.cell? ⟨g2, q * 2 + 1, none⟩ = some (.int .i64 (c q)) := by
      rw [Bk.cell HB2.out (show q * 2 + 1 < 2 * N by omega), tw_1]
    obtain ⟨r0, r1, rz, rf⟩ := two_c HRS.out
    obtain ⟨u, hu⟩ : ∃ u, u = a q := ⟨_, rfl⟩
    obtain ⟨v, hv⟩ : ∃ v, v = c q := ⟨_, rfl⟩
    rw [← hu] at u0
    rw [← hv] at u1
    have HU := Lib.hid (And.intro hu hv)
    have gr := two_set HRS.out (.string ⟨u.toArray⟩) (.int .i64 v)
    have gx : Ext W ((W1.setCell ⟨s, 0, none⟩ (.string ⟨u.toArray⟩)).setCell ⟨s, 1, none⟩ (.int .i64 v)) := (E1.out.sc (by have := HS.out; omega)).sc (by have := HS.out; omega)
    have HG := Lib.hid (And.intro gr gx)
    clear hu hv gr gx
    go_wp2
    obtain ⟨gr, gx⟩ := HG.out
    generalize (W1.setCell ⟨s, 0, none⟩ (.string ⟨u.toArray⟩)).setCell ⟨s, 1, none⟩ (.int .i64 v) = w6 at *
    obtain ⟨f0, f1, -, -⟩ := two_c gr
    refine bodyPost_ret (v := .agg #[.string ⟨u.toArray⟩, .int .i64 v]) (by simp [results, Tryd.results55, go_sem, f0, f1]) rfl ?_
    exact ⟨by rw [HU.out.1, HU.out.2, HAC.out.1, HAC.out.2], Kq.of g1 g2 gx, HI.out.ext' gx⟩
end Go.Proofs.YtlachbodibajlaaDoor
