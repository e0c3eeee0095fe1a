/- Walks: isSound. · Walks: Bound of both. -/
import Derived.Test.YtlachbodibajlaaDoorM16
namespace Go.Proofs.YtlachbodibajlaaDoor
open Go.RowKit Go.Shelf
attribute [local go_sem] Oper.semAt_some

/-- the marks of loops over iterators -/
def mkd (ds : List Nat) : List Deferred := ds.map fun D => { target := .collected D, args := #[] }
/-- the marks are met and shut, nothing else turns -/
structure Pm (ds : List Nat) (w w' : World) : Prop where
  os : w'.os = w.os
  tape : w'.tape = w.tape
  output : w'.output = w.output
  size : w.heap.size ≤ w'.heap.size
  block : ∀ b, b < w.heap.size → b ∉ ds → w'.heap[b]? = w.heap[b]?
theorem leaves_marks {F : Fence} {n : Nat} {P : Program} {fn : Func} {tmps : Array Value} {R : Ending → World → Prop} : ∀ (ds : List Nat) (w : World), ds.Nodup → (∀ D ∈ ds, w.heap[D]? = some (.deferred (some []))) →
    (∀ w', Pm ds w w' → LeavesIn F n P fn tmps R [] .returning w') → LeavesInM F n P fn tmps R (mkd ds) .returning w
  | [], w, _, _, h => h w ⟨rfl, rfl, rfl, Nat.le_refl _, fun _ _ _ => rfl⟩
  | D :: ds, w, hn, hd, h => by
    obtain ⟨hn1, hn2⟩ := List.nodup_cons.1 hn
    have hD := hd D (by simp)
    have hDl := (Array.getElem?_eq_some_iff.1 hD).1
    have hg := grownBy_putObj' w D (.deferred none)
    refine ⟨by simp, .inl ⟨D, _, rfl, run_takeDeferred hD, ?_⟩⟩
    refine leaves_marks ds _ hn2 (fun E hE => ?_) (fun w' hp => h w' ⟨hp.os.trans hg.os, hp.tape.trans hg.tape, hp.output.trans hg.output, Nat.le_trans hg.size hp.size, fun b hb hbn => ?_⟩)
    · have hne : E ≠ D := fun e => hn1 (e ▸ hE)
      have := hd E (by simp [hE])
      exact (hg.block E (Array.getElem?_eq_some_iff.1 this).1 (fun e => by injection e; omega)).trans this
    · have h1 : b ≠ D := fun e => hbn (by simp [e])
      have h2 : b ∉ ds := fun e => hbn (by simp [e])
      exact (hp.block b (Nat.lt_of_lt_of_le hb hg.size) h2).trans (hg.block b hb (fun e => by injection e; omega))

/-- sound -/
def Snd (ws : List Bw.Word) (x : Nat → Int) : Prop := (∀ p, p < Bw.sz ws → ∀ c ∈ Bw.letters, Bw.mv ws p c ≠ p → x p ≤ x (Bw.mv ws p c) + 1) ∧ x (Bw.last ws) ≤ 0

/-- what isSound returns -/
def RetS (ws : List Bw.Word) (x : Nat → Int) (e : Ending) : Prop := ∃ r : Bool, e = .returned (.bool r) ∧ (r = true ↔ Snd ws x)
/-- all below n₀ is as it was -/
def Lo (n₀ : Nat) (X Y : World) : Prop := Y.os = X.os ∧ Y.tape = X.tape ∧ Y.output = X.output ∧ n₀ ≤ Y.heap.size ∧ ∀ b, b < n₀ → Y.heap[b]? = X.heap[b]?
/-- between two rounds over the moves -/
def SI (ws : List Bw.Word) (x : Nat → Int) (k n₀ : Nat) (w : World) (pre : List (It ws k)) (X : World) : Prop := Lo n₀ w X ∧ ∀ y ∈ pre, x k ≤ x (Bw.mv ws k (lt y.1)) + 1
/-- a round has returned -/
def SX (ws : List Bw.Word) (x : Nat → Int) (k n₀ : Nat) (w : World) (cd : Code) (pre : List (It ws k)) (X : World) : Prop := cd = .ret ∧ Lo n₀ w X ∧ ∃ y : It ws k, ¬ x k ≤ x (Bw.mv ws k (lt y.1)) + 1
theorem Lo.grow {n₀ B : Nat} {w X Y : World} {row : Option Nat} (h : Lo n₀ w X) (hB : n₀ ≤ B) (hg : X.grownBy Y row) (hr : ∀ r, row = some r → B ≤ r) : Lo n₀ w Y :=
  ⟨hg.os.trans h.1, hg.tape.trans h.2.1, hg.output.trans h.2.2.1, Nat.le_trans h.2.2.2.1 hg.size, fun b hb => (hg.block b (Nat.lt_of_lt_of_le hb h.2.2.2.1) (fun e => by have := hr b e.symm; omega)).trans (h.2.2.2.2 b hb)⟩
theorem Lo.drw {n₀ : Nat} {w X : World} (h : Lo n₀ w X) : Lo n₀ w X.drew := ⟨h.1, h.2.1, h.2.2.1, h.2.2.2.1, h.2.2.2.2⟩
theorem Lo.cell {n₀ b i : Nat} {v : Value} {w X : World} (h : Lo n₀ w X) (hb : b < n₀) (hc : w.cell? ⟨b, i, none⟩ = some v) : X.cell? ⟨b, i, none⟩ = some v := (World.cell?_of_block (h.2.2.2.2 b hb)).trans hc
theorem its_mem {ws : List Bw.Word} {p : Nat} : ∀ (m i : Nat), i < m → ∀ h : i < 8 ∧ Bw.mv ws p (lt i) ≠ p, (⟨i, h⟩ : It ws p) ∈ its ws p m
  | 0, _, h, _ => by omega
  | m + 1, i, hi, h => by
    rw [its]
    by_cases e : i = m
    · subst e
      rw [dif_pos h]; simp
    · have ih := its_mem m i (by omega) h
      split
      · exact List.mem_append_left _ ih
      · exact ih

theorem last_x (ws : List Bw.Word) (V : Value) (W : World) (hV : Sl W V ws) (h8 : ∀ w ∈ ws, w.length ≤ 8) (h4 : ws.length ≤ 4) : Calls Tryd.prog 50 #[V] W fun e W' => e = .returned (.int .i64 (Bw.last ws : Nat)) ∧ Ext W W' :=
  (last_any ws V W hV h8 h4).mono fun _ _ ⟨h1, h2⟩ => ⟨h1, h2 ▸ Ext.refl _⟩
theorem SI.own {ws : List Bw.Word} {x : Nat → Int} {k n₀ : Nat} {w : World} {B : Nat} (hB : n₀ ≤ B) : OwnFrom B (SI ws x k n₀ w) := by
  rintro pre X Y row ⟨h1, h2⟩ hg hr
  exact ⟨h1.grow hB hg (fun r e => (hr r e).1), h2⟩
theorem SX.own {ws : List Bw.Word} {x : Nat → Int} {k n₀ : Nat} {w : World} {B : Nat} (hB : n₀ ≤ B) (cd : Code) : OwnFrom B (SX ws x k n₀ w cd) := by
  rintro pre X Y row ⟨h0, h1, h2⟩ hg hr
  exact ⟨h0, h1.grow hB hg (fun r e => (hr r e).1), h2⟩
theorem set_same {w : World} {b : Nat} {t : TypeId} {v : Value} (h : w.heap[b]? = some (.cells #[v] t (0, 0))) (k : Nat) : (w.setCell ⟨b, 0, none⟩ v).heap[k]? = w.heap[k]? := by
  by_cases e : k = b
  · subst e; simp [World.setCell, Array.getElem?_modify, h]
  · exact heap_far e
theorem snd_no {ws : List Bw.Word} {x : Nat → Int} {k : Nat} (hk : k < Bw.sz ws) (y : It ws k) (h : ¬ x k ≤ x (Bw.mv ws k (lt y.1)) + 1) : ¬ Snd ws x := fun hs => h (hs.1 k hk (lt y.1) (lt_mem y.2.1) y.2.2)
theorem snd_k {ws : List Bw.Word} {x : Nat → Int} {k : Nat} (h : ∀ y ∈ its ws k 8, x k ≤ x (Bw.mv ws k (lt y.1)) + 1) : ∀ c ∈ Bw.letters, Bw.mv ws k c ≠ k → x k ≤ x (Bw.mv ws k c) + 1 := by
  intro c hc hm
  obtain ⟨i, hi, rfl⟩ := List.getElem_of_mem hc
  have e : Bw.letters[i] = lt i := by unfold lt; rw [List.getD_eq_getElem?_getD, List.getElem?_eq_getElem hi]; rfl
  rw [e] at hm ⊢
  have h8 : i < 8 := hi
  exact h ⟨i, h8, hm⟩ (its_mem 8 i h8 ⟨h8, hm⟩)

set_option maxHeartbeats 4000000 in
set_option maxRecDepth 100000 in
theorem isSound_any (ws : List Bw.Word) (x0 : Nat → Int) (V T : Value) (W : World) (hV : Sl W V ws) (hT : Il W T (Bw.sz ws) x0) (hw : okWs ws = true) (hx : ∀ i, i < Bw.sz ws → -1099511627776 ≤ x0 i ∧ x0 i ≤ 1099511627776) :
    Calls Tryd.prog 60 #[V, T] W fun e W' => RetS ws x0 e ∧ Ext W W' := by
  have HV := Lib.hid hV; have HT := Lib.hid hT; have HW := Lib.hid hw; have HX := Lib.hid hx
  obtain ⟨-, h4, h8, hW⟩ := okWs_iff.1 hw
  have H8 := Lib.hid h8; have H4 := Lib.hid h4
  have hzl := Bw.sz_le ws h4 h8
  have hz1 := Bw.sz_pos ws
  obtain ⟨A, c, rfl, hac, hcm, -⟩ := hV
  obtain ⟨TA, tc, rfl, htc, htm, hT3⟩ := hT
  obtain ⟨tb, tof, rfl, htb, hcell⟩ := hT3 hz1
  have HCE := Lib.hid hcell
  clear hw hx h8 h4 hW hcell hT3
  refine (callsIn_wide (n := 3)).1 ?_
  refine callsIn_of_wp_marks Tryd.func60 rfl trivial ?_ rfl
  simp only [Tryd.ntmps60, List.size_toArray, List.length_cons, List.length_nil, Nat.reduceAdd, Nat.reduceSub, Array.replicate_succ, Array.replicate_zero, List.push_toArray, List.append_toArray, List.nil_append, List.cons_append]
  gi_wp2
  have e1 : Ext W ((W.alloc (.cells #[.slice (some ⟨tb, tof, none⟩) (Bw.sz ws) tc] 32)).alloc (.cells #[.bool false] 4)) := ((Ext.refl W).alc _).alc _
  have b1 : Boxed ((W.alloc (.cells #[.slice (some ⟨tb, tof, none⟩) (Bw.sz ws) tc] 32)).alloc (.cells #[.bool false] 4)) W.heap.size 32 (.slice (some ⟨tb, tof, none⟩) (Bw.sz ws) tc) := (Below.heap_alloc _ _ _ (by simp)).trans (heap_alloc_new W _)
  have b2 := heap_alloc_new (W.alloc (.cells #[.slice (some ⟨tb, tof, none⟩) (Bw.sz ws) tc] 32)) (.cells #[.bool false] 4)
  have z2 : ((W.alloc (.cells #[.slice (some ⟨tb, tof, none⟩) (Bw.sz ws) tc] 32)).alloc (.cells #[.bool false] 4)).heap.size = W.heap.size + 1 + 1 := by simp
  simp only [World.size_alloc] at b2
  obtain ⟨s, hs⟩ : ∃ s, s = W.heap.size := ⟨_, rfl⟩
  rw [← hs] at b1 b2 z2 ⊢
  generalize (W.alloc (.cells #[.slice (some ⟨tb, tof, none⟩) (Bw.sz ws) tc] 32)).alloc (.cells #[.bool false] 4) = W1 at *
  have hts : tb < s := by rw [hs]; exact htb
  have HE1 := Lib.hid e1; have HB := Lib.hid (And.intro b1 b2); have HS := Lib.hid hs
  obtain ⟨N, hN⟩ : ∃ N, N = Bw.sz ws := ⟨_, rfl⟩
  have HN := Lib.hid hN
  clear e1 b1 b2 hs
  refine wpIn_loop (fun a w => ∃ (k : Nat) (ds : List Nat) (u5 u6 u7 u8 u12 u13 u14 u15 u16 u17 u18 u19 u20 u21 u22 u23 u24 u25 u26 u27 u28 u29 u30 u31 u32 u33 u34 : Value), a = { tmps := #[.slice A ws.length c, .slice (some ⟨tb, tof, none⟩) (Bw.sz ws) tc, undef, .pointer (some ⟨s, 0, none⟩), .pointer (some ⟨s + 1, 0, none⟩), u5, u6, u7, u8, .slice (some ⟨tb, tof, none⟩) (Bw.sz ws) tc, .int .i64 (Bw.sz ws : Nat), .int .i64 k, u12, u13, u14, u15, u16, u17, u18, u19, u20, u21, u22, u23, u24, u25, u26, u27, u28, u29, u30, u31, u32, u33, u34], defers := mkd ds } ∧ k ≤ Bw.sz ws ∧ ds.Nodup ∧ (∀ D ∈ ds, s + 1 < D ∧ w.heap[D]? = some (.deferred (some []))) ∧
      (∀ p, p < k → ∀ c ∈ Bw.letters, Bw.mv ws p c ≠ p → x0 p ≤ x0 (Bw.mv ws p c) + 1) ∧ Lo (s + 1 + 1) W1 w) (fun a _ => Bw.sz ws - (intOf (a.tmps.getD 11 undef)).toNat) ?_ ?_
  · exact ⟨0, [], undef, undef, undef, undef, undef, undef, undef, undef, undef, undef, undef, undef, undef, undef, undef, undef, undef, undef, undef, undef, undef, undef, undef, undef, undef, undef, undef, rfl, Nat.zero_le _, List.nodup_nil, (fun D h => by simp at h), (fun p h => by omega), rfl, rfl, rfl, by omega, fun b hb => rfl⟩
  · rintro a wr ⟨k, ds, u5, u6, u7, u8, u12, u13, u14, u15, u16, u17, u18, u19, u20, u21, u22, u23, u24, u25, u26, u27, u28, u29, u30, u31, u32, u33, u34, rfl, hk, hnd, hds, hsnd, hlo⟩
    have HND := Lib.hid hnd; have HDS := Lib.hid hds; have HSN := Lib.hid hsnd; have HLO := Lib.hid hlo
    have q1 := Boxed.cell ((hlo.2.2.2.2 s (by omega)).trans HB.out.1)
    have q2 := uno ((hlo.2.2.2.2 (s + 1) (by omega)).trans HB.out.2)
    clear hnd hds hsnd hlo
    dsimp only
    by_cases hlt : k < Bw.sz ws
    · have c0 : wr.cell? ⟨tb, tof + k, none⟩ = some (.int .i64 (x0 k)) := HLO.out.cell (by omega) (HE1.out.at htb (HCE.out k hlt))
      gi_wp2
      refine ⟨trivial, ?_⟩
      refine (callsIn_wide.2 (moves_any ws k A ws.length c _)).mono ?_
      rintro e w5 ⟨rfl, rfl⟩
      gi_wp2
      have f1 : Boxed (((wr.alloc (.cells #[.int .i64 (x0 k)] 3)).alloc (.cells #[.slice A ws.length c] 70)).alloc (.cells #[.int .i64 k] 3)) wr.heap.size 3 (.int .i64 (x0 k)) := (Below.heap_alloc _ _ _ (by simp; omega)).trans ((Below.heap_alloc _ _ _ (by simp)).trans (heap_alloc_new wr _))
      have f2 : Boxed (((wr.alloc (.cells #[.int .i64 (x0 k)] 3)).alloc (.cells #[.slice A ws.length c] 70)).alloc (.cells #[.int .i64 k] 3)) (wr.heap.size + 1) 70 (.slice A ws.length c) := by
        have h1 := heap_alloc_new (wr.alloc (.cells #[.int .i64 (x0 k)] 3)) (.cells #[.slice A ws.length c] 70)
        simp only [World.size_alloc] at h1
        exact (Below.heap_alloc _ _ _ (by simp)).trans h1
      have f3 := heap_alloc_new ((wr.alloc (.cells #[.int .i64 (x0 k)] 3)).alloc (.cells #[.slice A ws.length c] 70)) (.cells #[.int .i64 k] 3)
      simp only [World.size_alloc] at f3
      have e5 : Ext wr (((wr.alloc (.cells #[.int .i64 (x0 k)] 3)).alloc (.cells #[.slice A ws.length c] 70)).alloc (.cells #[.int .i64 k] 3)) := (((Ext.refl wr).alc _).alc _).alc _
      have z5 : (((wr.alloc (.cells #[.int .i64 (x0 k)] 3)).alloc (.cells #[.slice A ws.length c] 70)).alloc (.cells #[.int .i64 k] 3)).heap.size = wr.heap.size + 1 + 1 + 1 := by simp
      obtain ⟨b, hb⟩ : ∃ b, b = wr.heap.size := ⟨_, rfl⟩
      rw [← hb] at f1 f2 f3 z5
      generalize hw5 : ((wr.alloc (.cells #[.int .i64 (x0 k)] 3)).alloc (.cells #[.slice A ws.length c] 70)).alloc (.cells #[.int .i64 k] 3) = w5 at *
      have hsb : s + 1 < b := by rw [hb]; exact q2.2.2
      have HE5 := Lib.hid e5
      have HLW : Hid (Ext W wr) := by
        have h1 := HLO.out
        have h2 := HE1.out
        have h3 := HS.out
        exact Lib.hid ⟨h1.1.trans h2.os, h1.2.1.trans h2.tape, h1.2.2.1.trans h2.output, by have := h1.2.2.2.1; omega, fun b' hb' => (h1.2.2.2.2 b' (by omega)).trans (h2.block b' hb')⟩
      have hSl : Sl w5 (.slice A ws.length c) ws := HV.out.ext (HLW.out.trans e5)
      have hbk : ∀ A' n c', (Value.slice A ws.length c) = .slice A' n c' → ∀ b' off, A' = some ⟨b', off, none⟩ → b' < b + 1 + 1 + 1 ∧ ¬ False := by
        intro A' n c' e b' off eA
        injection e with e1 e2 e3
        subst eA
        subst e1
        obtain ⟨A9, c9, e9, -, -, h9⟩ := HV.out
        injection e9 with e91 e92 e93
        obtain ⟨b9, o9, eA9, hb9, -⟩ := h9 (by have := (okWs_iff.1 HW.out).1; omega)
        rw [eA9] at e91
        injection e91 with e91
        injection e91 with e91
        subst e91
        have := HS.out
        exact ⟨by omega, id⟩
      have g1 : Boxed w5 s 32 (.slice (some ⟨tb, tof, none⟩) (Bw.sz ws) tc) := (e5.block s (by omega)).trans ((HLO.out.2.2.2.2 s (by omega)).trans HB.out.1)
      have g2 : w5.heap[s + 1]? = some (.cells #[.bool false] 4 (0, 0)) := (e5.block (s + 1) (by omega)).trans ((HLO.out.2.2.2.2 (s + 1) (by omega)).trans HB.out.2)
      have HG := Lib.hid (And.intro f1 (And.intro g1 g2))
      rw [← hb]
      have HBW := Lib.hid hb
      clear hw5 e5 hb g1 g2 f1
      refine wpIn_rangeFunc_ownF rfl (by decide) (gf := 124) (lb := #[.pointer (some ⟨b + 1, 0, none⟩), .pointer (some ⟨b + 1 + 1, 0, none⟩)]) rfl trivial (enters_of Tryd.func124 (by kernel_rfl) rfl)
        (moves1_stops 2 (by decide) (b + 1) (b + 1 + 1) (b + 1 + 1 + 1) k (fun _ => False) ws (.slice A ws.length c) H8.out H4.out hlt ⟨by omega, id⟩ ⟨by omega, id⟩ w5 (by omega) f2 f3 hSl hbk)
        K3.trans (fun X l o o' hl h _ _ => K3.put X l o o' (by omega) h) (Below.refl _ _) (fun _ => rfl)
        (SI ws x0 k (b + 1 + 1 + 1) w5) (SX ws x0 k (b + 1 + 1 + 1) w5) (SI.own (by omega)) (SX.own (by omega))
        ⟨⟨rfl, rfl, rfl, by omega, fun _ _ => rfl⟩, fun y h => by cases h⟩
        (fun x => { tmps := #[.slice A ws.length c, .slice (some ⟨tb, tof, none⟩) (Bw.sz ws) tc, undef, .pointer (some ⟨s, 0, none⟩), .pointer (some ⟨s + 1, 0, none⟩), .int .i64 k, .pointer (some ⟨b, 0, none⟩), u7, .int .i64 (Bw.mv ws k (lt x.1) : Nat), .slice (some ⟨tb, tof, none⟩) (Bw.sz ws) tc, .int .i64 (Bw.sz ws : Nat), .int .i64 k, .bool true, .int .i64 k, .pointer (some ⟨tb, tof + k, none⟩), .int .i64 (x0 k), .slice A ws.length c, .int .i64 k, .func (.func 124) #[] #[.pointer (some ⟨b + 1, 0, none⟩), .pointer (some ⟨b + 1 + 1, 0, none⟩)], .int .u8 ((lt x.1).toNat : Nat), .int .i64 (Bw.mv ws k (lt x.1) : Nat), u21, u22, u23, u24, u25, u26, u27, u28, u29, u30, u31, u32, u33, u34], defers := [] }) ?assign ?body ?done ?stop
      case assign =>
        intro l x X K hK
        unfold encM
        gi_wp2
        exact hK
      case body =>
        rintro lo pre x X ⟨hl, hpre⟩ hlt8
        have hq := Bw.mv_lt ws k (lt x.1) hlt
        obtain ⟨q, hqe⟩ : ∃ q, q = Bw.mv ws k (lt x.1) := ⟨_, rfl⟩
        have HQ := Lib.hid hqe
        rw [← hqe] at hq ⊢
        have m1 := Boxed.cell ((hl.2.2.2.2 b (by omega)).trans HG.out.1)
        have m2 := Boxed.cell ((hl.2.2.2.2 s (by omega)).trans HG.out.2.1)
        have m3 : X.cell? ⟨tb, tof + q, none⟩ = some (.int .i64 (x0 q)) := hl.cell (by omega) (HE5.out.at (by omega) (HLO.out.cell (by omega) (HE1.out.at htb (HCE.out q hq))))
        have m4 := (uno ((hl.2.2.2.2 (s + 1) (by omega)).trans HG.out.2.2))
        have hxq := HX.out q hq
        have hxk := HX.out k hlt
        have hres := (hl.2.2.2.2 (s + 1) (by omega)).trans HG.out.2.2
        have HL := Lib.hid hl; have HPRE := Lib.hid hpre; have HRS := Lib.hid hres
        obtain ⟨a1, ha1⟩ : ∃ z, z = x0 q := ⟨_, rfl⟩
        obtain ⟨a2, ha2⟩ : ∃ z, z = x0 k := ⟨_, rfl⟩
        rw [← ha1] at m3 hxq
        rw [← ha2] at m1 hxk ⊢
        have HA := Lib.hid (And.intro ha1 ha2)
        have hw1 : IntKind.i64.wrap (a1 + 1) = a1 + 1 := IntWalk.i64_in _ (by omega)
        have hmo : Tryd.prog.follows .mixedOrders = true := by kernel_rfl
        clear hl hpre hres hqe ha1 ha2 q1 q2 c0 hxq hxk hbk hSl f2 f3
        by_cases hgt : a1 + 1 < a2
        · have HGT := Lib.hid hgt
          gi_wp2
          gi_region_o
          all_goals
            have n4 : X.drew.cell? ⟨s + 1, 0, none⟩ = some (.bool false) := m4.1
            have n5 : ∀ o, X.drew.frozen? ⟨s + 1, o, none⟩ = false := m4.2.1
            have n6 : s + 1 < X.drew.heap.size := m4.2.2
            have hss := fun k => set_same (w := X.drew) HRS.out k
            have hsz : (X.drew.setCell ⟨s + 1, 0, none⟩ (.bool false)).heap.size = X.heap.size := by simp [World.setCell]
            clear m1 m2 m3 m4 hgt hw1
            gi_wp2
            exact ⟨(KeepsOthers.drew X).trans (KeepsOthers.setCell _ _ _), rfl, ⟨HL.out.1, HL.out.2.1, HL.out.2.2.1, Nat.le_trans HL.out.2.2.2.1 (Nat.le_of_eq hsz.symm), fun b' hb' => (hss b').trans (HL.out.2.2.2.2 b' hb')⟩, x, by rw [← HQ.out, ← HA.out.1, ← HA.out.2]; have := HGT.out; omega⟩
        · have HGT := Lib.hid hgt
          have hge : a2 ≤ a1 + 1 := by omega
          clear hgt m4
          gi_wp2
          gi_region_o
          all_goals
            clear m1 m2 m3 hw1
            gi_wp2
            exact ⟨KeepsOthers.drew X, ⟨fun _ _ _ => rfl, Nat.le_refl _⟩, HL.out.drw, fun y hy => by
              rcases List.mem_append.1 hy with h | h
              · exact HPRE.out y h
              · rw [List.mem_singleton.1 h, ← HQ.out, ← HA.out.1, ← HA.out.2]; have := HGT.out; omega⟩
      case done =>
        rintro D xs X hD rfl ⟨hl, hpre⟩ hdef
        have HL := Lib.hid hl; have HPRE := Lib.hid hpre; have HDEF := Lib.hid hdef; have HDL := Lib.hid hD
        clear hl hpre hdef q1 q2 c0 hbk hSl f2 f3
        gi_wp2
        have hbw := HBW.out
        have hDN : D ∉ ds := fun h => by
          have := (Array.getElem?_eq_some_iff.1 (HDS.out D h).2).1
          have := HDL.out
          omega
        refine ⟨⟨k + 1, D :: ds, _, _, _, _, _, _, _, _, _, _, _, _, _, _, _, _, _, _, _, _, _, _, _, _, _, _, _, rfl, by omega, List.nodup_cons.2 ⟨hDN, HND.out⟩, ?_, ?_, ?_⟩, ?_⟩
        · intro E hE
          rcases List.mem_cons.1 hE with rfl | hE
          · exact ⟨by have := HDL.out; omega, HDEF.out⟩
          · obtain ⟨h1, h2⟩ := HDS.out E hE
            have h3 := (Array.getElem?_eq_some_iff.1 h2).1
            exact ⟨h1, (HL.out.2.2.2.2 E (by omega)).trans ((HE5.out.block E h3).trans h2)⟩
        · intro p hp c' hc' hm
          by_cases e : p = k
          · subst e; exact snd_k HPRE.out c' hc' hm
          · exact HSN.out p (by omega) c' hc' hm
        · have h1 := HL.out; have h2 := HE5.out; have h3 := HLO.out
          have h6 := h1.2.2.2.1
          exact ⟨h1.1.trans (h2.os.trans h3.1), h1.2.1.trans (h2.tape.trans h3.2.1), h1.2.2.1.trans (h2.output.trans h3.2.2.1), by omega, fun b' hb' => (h1.2.2.2.2 b' (by omega)).trans ((h2.block b' (by omega)).trans (h3.2.2.2.2 b' hb'))⟩
        · simp [intOf]; omega
      case stop =>
        rintro D cd pre X hD - ⟨rfl, hl, y, hy⟩ hdef
        have HL := Lib.hid hl; have HDEF := Lib.hid hdef; have HDL := Lib.hid hD
        have hsn := snd_no hlt y hy
        have HSNO := Lib.hid hsn
        clear hl hdef hy q1 q2 c0 hbk hSl f2 f3 hsn
        gi_wp2
        have hbw := HBW.out
        have hDN : D ∉ ds := fun h => by
          have := (Array.getElem?_eq_some_iff.1 (HDS.out D h).2).1
          have := HDL.out
          omega
        refine leaves_marks (D :: ds) X (List.nodup_cons.2 ⟨hDN, HND.out⟩) (fun E hE => ?_) (fun w' hp => ?_)
        · rcases List.mem_cons.1 hE with rfl | hE
          · exact HDEF.out
          · obtain ⟨h1, h2⟩ := HDS.out E hE
            have h3 := (Array.getElem?_eq_some_iff.1 h2).1
            exact (HL.out.2.2.2.2 E (by omega)).trans ((HE5.out.block E h3).trans h2)
        · have hni : ∀ b', b' ≤ s + 1 → b' ∉ D :: ds := fun b' hb' h => by
            rcases List.mem_cons.1 h with rfl | h
            · have := HDL.out; omega
            · have := (HDS.out b' h).1; omega
          have h1 := HL.out; have h2 := HE5.out; have h3 := HLO.out; have h4 := HE1.out; have h5 := HS.out
          have h6 := h1.2.2.2.1
          have hr := (hp.block (s + 1) (by omega) (hni _ (Nat.le_refl _))).trans ((h1.2.2.2.2 (s + 1) (by omega)).trans HG.out.2.2)
          have hc := (uno hr).1
          refine ⟨.bool false, by simp [results, Tryd.f60, go_sem, hc], ⟨false, rfl, ⟨fun h => (by cases h), fun h => absurd h HSNO.out⟩⟩, ?_⟩
          exact ⟨hp.os.trans (h1.1.trans (h2.os.trans (h3.1.trans h4.os))), hp.tape.trans (h1.2.1.trans (h2.tape.trans (h3.2.1.trans h4.tape))), hp.output.trans (h1.2.2.1.trans (h2.output.trans (h3.2.2.1.trans h4.output))), by have := hp.size; omega,
            fun b' hb' => (hp.block b' (by omega) (hni b' (by omega))).trans ((h1.2.2.2.2 b' (by omega)).trans ((h2.block b' (by omega)).trans ((h3.2.2.2.2 b' (by omega)).trans (h4.block b' hb'))))⟩
    · obtain rfl : k = Bw.sz ws := by omega
      have hlast : Bw.last ws < Bw.sz ws := Bw.last_lt ws
      have HLW : Hid (Ext W wr) := by
        have h1 := HLO.out
        have h2 := HE1.out
        have h3 := HS.out
        exact Lib.hid ⟨h1.1.trans h2.os, h1.2.1.trans h2.tape, h1.2.2.1.trans h2.output, by have := h1.2.2.2.1; omega, fun b' hb' => (h1.2.2.2.2 b' (by omega)).trans (h2.block b' hb')⟩
      have c9 : wr.cell? ⟨tb, tof + Bw.last ws, none⟩ = some (.int .i64 (x0 (Bw.last ws))) := HLO.out.cell (by omega) (HE1.out.at htb (HCE.out _ hlast))
      have z1 : s < wr.heap.size := by have := HLO.out.2.2.2.1; omega
      have z3 : tb < wr.heap.size := by omega
      have hxl := HX.out _ hlast
      gi_wp2
      refine wpIn_wide.2 ?_
      refine wp_region_noPanic ?_
      refine wp_split (S := fun X => Ext wr X) 6 (by kernel_rfl) (by kernel_rfl) (Ext.drw (Ext.refl _)) ?_
      simp only [List.take_succ_cons, List.take_zero, List.drop_succ_cons, List.drop_zero]
      refine take_at 0 (some 29) (.slice (some ⟨tb, tof, none⟩) (Bw.sz ws) tc) rfl rfl (by kernel_rfl) (by kernel_rfl) (by kernel_rfl) (fun _ _ _ h => h) (Or.inl ⟨by rfl, fun w' hSw => ?_⟩) (Ext.drw (Ext.refl _)) ?_
      · have q3 := keepAt hSw z1 q1
        try clear hSw
        go_simp
        all_goals (with_reducible rfl)
      try simp only [Act.put, List.setIfInBounds_toArray, List.set_cons_zero, List.set_cons_succ]
      refine take_at 1 (some 30) (.slice A ws.length c) rfl rfl (by kernel_rfl) (by kernel_rfl) (by kernel_rfl) (fun _ _ _ h => h) (Or.inl ⟨by rfl, fun w' hSw => ?_⟩) (Ext.drw (Ext.refl _)) ?_
      · skip
        try clear hSw
        go_simp
        all_goals (with_reducible rfl)
      try simp only [Act.put, List.setIfInBounds_toArray, List.set_cons_zero, List.set_cons_succ]
      refine wpAnyH_ready (rs := [2]) (by kernel_rfl) (by simp) ?_
      refine AllReadyH.cons rfl (fun K hK => ?_) AllReadyH.nil
      go_simp
      refine (last_x ws _ _ (HV.out.ext (HLW.out.trans (Ext.drw (Ext.refl _)))) H8.out H4.out).mono ?_
      rintro e v2 ⟨rfl, hb2⟩
      have e2 : Ext wr v2 := (Ext.drw (Ext.refl _)).trans hb2
      try go_wp2_with fail
      refine hK.out _ _ e2 (fun _ => ?_)
      clear hK K
      try simp only [Act.put, List.setIfInBounds_toArray, List.set_cons_zero, List.set_cons_succ]
      refine take_at 3 (some 32) (.pointer (some ⟨tb, tof + Bw.last ws, none⟩)) rfl rfl (by kernel_rfl) (by kernel_rfl) (by kernel_rfl) (fun _ _ _ h => h) (Or.inl ⟨by rfl, fun w' hSw => ?_⟩) (e2) ?_
      · skip
        try clear hSw
        go_simp
        all_goals (with_reducible rfl)
      try simp only [Act.put, List.setIfInBounds_toArray, List.set_cons_zero, List.set_cons_succ]
      refine take_at 4 (some 33) (.int .i64 (x0 (Bw.last ws))) rfl rfl (by kernel_rfl) (by kernel_rfl) (by kernel_rfl) (fun _ _ _ h => h) (Or.inl ⟨by rfl, fun w' hSw => ?_⟩) (e2) ?_
      · have q4 := keepAt hSw z3 c9
        try clear hSw
        go_simp
        all_goals (with_reducible rfl)
      try simp only [Act.put, List.setIfInBounds_toArray, List.set_cons_zero, List.set_cons_succ]
      refine take_at 5 (some 34) (.bool (decide (x0 (Bw.last ws) ≤ 0))) rfl rfl (by kernel_rfl) (by kernel_rfl) (by kernel_rfl) (fun _ _ _ h => h) (Or.inl ⟨by rfl, fun w' hSw => ?_⟩) (e2) ?_
      · skip
        try clear hSw
        go_simp
        all_goals (with_reducible rfl)
      try simp only [Act.put, List.setIfInBounds_toArray, List.set_cons_zero, List.set_cons_succ]
      refine wpAnyH_done (by kernel_rfl) ?_ _
      refine cut_normal ?_
      have g2 : v2.heap[s + 1]? = some (.cells #[.bool false] 4 (0, 0)) := (e2.block (s + 1) q2.2.2).trans ((HLO.out.2.2.2.2 (s + 1) (by omega)).trans HB.out.2)
      obtain ⟨p1, p2, p3⟩ := uno g2
      obtain ⟨r, hr⟩ : ∃ r, r = decide (x0 (Bw.last ws) ≤ 0) := ⟨_, rfl⟩
      have HR := Lib.hid hr
      rw [← hr]
      have hset : (v2.setCell ⟨s + 1, 0, none⟩ (.bool r)).heap[s + 1]? = some (.cells #[.bool r] 4 (0, 0)) := by
        simp [World.setCell, Array.getElem?_modify, g2]
      have hszs : (v2.setCell ⟨s + 1, 0, none⟩ (.bool r)).heap.size = v2.heap.size := by simp [World.setCell]
      have HE2 := Lib.hid (And.intro e2 (And.intro hset hszs))
      clear hr hset hszs e2 hb2 q1 q2 c9 hxl g2
      go_wp2_with fail
      refine NoPanic.normal ?_
      obtain ⟨e2, hset, hszs⟩ := HE2.out
      have HFR : Hid (∀ k, k ≠ s + 1 → (v2.setCell ⟨s + 1, 0, none⟩ (.bool r)).heap[k]? = v2.heap[k]?) := Lib.hid fun k hk => heap_far hk
      have HOS : Hid ((v2.setCell ⟨s + 1, 0, none⟩ (.bool r)).os = v2.os ∧ (v2.setCell ⟨s + 1, 0, none⟩ (.bool r)).tape = v2.tape ∧ (v2.setCell ⟨s + 1, 0, none⟩ (.bool r)).output = v2.output) := Lib.hid ⟨rfl, rfl, rfl⟩
      generalize v2.setCell ⟨s + 1, 0, none⟩ (.bool r) = v3 at *
      clear p1 p2 p3 e2 hset hszs
      gi_wp2
      obtain ⟨e2, hset, hszs⟩ := HE2.out
      refine leaves_marks ds v3 HND.out (fun E hE => ?_) (fun w' hp => ?_)
      · obtain ⟨h1, h2⟩ := HDS.out E hE
        have h3 := (Array.getElem?_eq_some_iff.1 h2).1
        exact (HFR.out E (by omega)).trans ((e2.block E h3).trans h2)
      · have hni : ∀ b', b' ≤ s + 1 → b' ∉ ds := fun b' hb' h => by have := (HDS.out b' h).1; omega
        have h3 := HLO.out; have h4 := HE1.out; have h5 := HS.out
        have h6 := h3.2.2.2.1
        have h7 := e2.size
        have hr2 := (hp.block (s + 1) (by omega) (hni _ (Nat.le_refl _))).trans hset
        have hc := (uno hr2).1
        refine ⟨.bool r, by simp [results, Tryd.f60, go_sem, hc], ⟨r, rfl, ?_⟩, ?_⟩
        · rw [HR.out, decide_eq_true_eq]
          exact ⟨fun h => ⟨HSN.out, h⟩, fun h => h.2⟩
        · exact ⟨hp.os.trans (HOS.out.1.trans (e2.os.trans (h3.1.trans h4.os))), hp.tape.trans (HOS.out.2.1.trans (e2.tape.trans (h3.2.1.trans h4.tape))), hp.output.trans (HOS.out.2.2.trans (e2.output.trans (h3.2.2.1.trans h4.output))), by have := hp.size; omega,
            fun b' hb' => (hp.block b' (by omega) (hni b' (by omega))).trans ((HFR.out b' (by omega)).trans ((e2.block b' (by omega)).trans ((h3.2.2.2.2 b' (by omega)).trans (h4.block b' hb'))))⟩
end Go.Proofs.YtlachbodibajlaaDoor
namespace Go.Proofs.YtlachbodibajlaaDoor
open Go.RowKit Go.Shelf

/-- what Bound returns -/
def RetB (ws : List Bw.Word) (n : Nat) (x : Nat → Int) (e : Ending) : Prop :=
  (okWs ws = false ∧ e = .returned (.tuple #[.int .i64 0, .bool false, .int .i64 2])) ∨ (okWs ws = true ∧ n ≠ Bw.sz ws ∧ e = .returned (.tuple #[.int .i64 0, .bool false, .int .i64 3])) ∨
  (okWs ws = true ∧ n = Bw.sz ws ∧ btw x (-1099511627776) 1099511627776 n = false ∧ e = .returned (.tuple #[.int .i64 0, .bool false, .int .i64 2])) ∨
  (okWs ws = true ∧ n = Bw.sz ws ∧ btw x (-1099511627776) 1099511627776 n = true ∧ ∃ r : Bool, e = .returned (.tuple #[.int .i64 (x 0), .bool r, .int .i64 0]) ∧ (r = true ↔ Snd ws x))

set_option maxHeartbeats 4000000 in
set_option maxRecDepth 100000 in
theorem bound_any (ws : List Bw.Word) (n : Nat) (x : Nat → Int) (V T : Value) (W : World) (hV : Sl W V ws) (hT : Il W T n x) (hs : Sm ws) :
    Calls Tryd.prog 25 #[V, T] W fun e W' => RetB ws n x e ∧ Ext W W' := by
  have HV := Lib.hid hV; have HT := Lib.hid hT
  obtain ⟨A, c, rfl, hac, hcm, -⟩ := hV
  obtain ⟨TA, tc, rfl, htc, htm, -⟩ := hT
  go_enter Tryd.func25, Tryd.ntmps25
  go_wp2_with fail
  refine (areWords_any ws _ _ HV.out hs).mono ?_
  rintro e w1 ⟨rfl, hx⟩
  have HX := Lib.hid hx; clear hx
  cases hw : okWs ws
  · have HW := Lib.hid hw
    clear hw
    go_wp2
    refine bodyPost_ret (v := .tuple #[.int .i64 0, .bool false, .int .i64 2]) (by simp [results, Tryd.results25, go_sem]) rfl ?_
    exact ⟨.inl ⟨HW.out, rfl⟩, HX.out⟩
  have HW := Lib.hid hw
  obtain ⟨-, h4, h8, -⟩ := okWs_iff.1 hw
  have H4 := Lib.hid h4; have H8 := Lib.hid h8
  have hzl := Bw.sz_le ws h4 h8
  have hz1 := Bw.sz_pos ws
  have hll := Bw.last_lt ws
  clear hw h4 h8 hs
  go_wp2_with fail
  refine (size_any ws _ _ (HV.out.ext HX.out) H8.out H4.out).mono ?_
  rintro e w2 ⟨rfl, rfl⟩
  by_cases hn : n = Bw.sz ws
  · have hnb : ((n : Int) != (Bw.sz ws : Nat)) = false := by simp; omega
    have HNE := Lib.hid hn
    clear hn
    go_wp2_with fail
    refine (areBetween_any n x (-1099511627776) 1099511627776 _ _ (HT.out.ext HX.out)).mono ?_
    rintro e w3 ⟨rfl, rfl⟩
    cases hb : btw x (-1099511627776) 1099511627776 n
    · have HB := Lib.hid hb
      clear hb
      go_wp2
      refine bodyPost_ret (v := .tuple #[.int .i64 0, .bool false, .int .i64 2]) (by simp [results, Tryd.results25, go_sem]) rfl ?_
      exact ⟨.inr (.inr (.inl ⟨HW.out, HNE.out, HB.out, rfl⟩)), HX.out⟩
    · have HB := Lib.hid hb
      obtain rfl := HNE.out
      clear hb hnb
      obtain ⟨tb, tof, rfl, htb, e1⟩ := Vl.at HT.out HX.out hz1
      rw [Nat.add_zero] at e1
      go_upto_region 8 with fail
      refine wp_region_noPanic ?_
      refine wp_region_held_drew (S := fun X => Ext w3 X) (by kernel_rfl) (Ext.drw (Ext.refl _)) (fun _ => ?_)
      refine take_at 0 (some 20) (.slice (some ⟨tb, tof, none⟩) (Bw.sz ws) tc) rfl rfl (by kernel_rfl) (by kernel_rfl) (by kernel_rfl) (fun _ _ _ h => h) (Or.inl ⟨by rfl, fun w' hSw => ?_⟩) (Ext.drw (Ext.refl _)) ?_
      · skip
        try clear hSw
        go_simp
        all_goals (with_reducible rfl)
      try simp only [Act.put, List.setIfInBounds_toArray, List.set_cons_zero, List.set_cons_succ]
      refine take_at 1 (some 21) (.pointer (some ⟨tb, tof, none⟩)) rfl rfl (by kernel_rfl) (by kernel_rfl) (by kernel_rfl) (fun _ _ _ h => h) (Or.inl ⟨by rfl, fun w' hSw => ?_⟩) (Ext.drw (Ext.refl _)) ?_
      · skip
        try clear hSw
        go_simp
        all_goals (with_reducible rfl)
      try simp only [Act.put, List.setIfInBounds_toArray, List.set_cons_zero, List.set_cons_succ]
      refine take_at 2 (some 22) (.int .i64 (x 0)) rfl rfl (by kernel_rfl) (by kernel_rfl) (by kernel_rfl) (fun _ _ _ h => h) (Or.inl ⟨by rfl, fun w' hSw => ?_⟩) (Ext.drw (Ext.refl _)) ?_
      · have q3 := keepAt hSw htb e1
        try clear hSw
        go_simp
        all_goals (with_reducible rfl)
      try simp only [Act.put, List.setIfInBounds_toArray, List.set_cons_zero, List.set_cons_succ]
      refine take_at 3 (some 23) (.slice A ws.length c) rfl rfl (by kernel_rfl) (by kernel_rfl) (by kernel_rfl) (fun _ _ _ h => h) (Or.inl ⟨by rfl, fun w' hSw => ?_⟩) (Ext.drw (Ext.refl _)) ?_
      · skip
        try clear hSw
        go_simp
        all_goals (with_reducible rfl)
      try simp only [Act.put, List.setIfInBounds_toArray, List.set_cons_zero, List.set_cons_succ]
      refine take_at 4 (some 24) (.slice (some ⟨tb, tof, none⟩) (Bw.sz ws) tc) rfl rfl (by kernel_rfl) (by kernel_rfl) (by kernel_rfl) (fun _ _ _ h => h) (Or.inl ⟨by rfl, fun w' hSw => ?_⟩) (Ext.drw (Ext.refl _)) ?_
      · skip
        try clear hSw
        go_simp
        all_goals (with_reducible rfl)
      try simp only [Act.put, List.setIfInBounds_toArray, List.set_cons_zero, List.set_cons_succ]
      refine wpAnyH_ready (rs := [5]) (by kernel_rfl) (by simp) ?_
      refine AllReadyH.cons rfl (fun K hK => ?_) AllReadyH.nil
      go_simp
      refine (isSound_any ws x _ _ _ (HV.out.ext (HX.out.trans (Ext.drw (Ext.refl _)))) (HT.out.ext (HX.out.trans (Ext.drw (Ext.refl _)))) HW.out (btw_iff.1 HB.out)).mono ?_
      rintro e v5 ⟨⟨r, rfl, hr⟩, hb5⟩
      have e5 : Ext w3 v5 := (Ext.drw (Ext.refl _)).trans hb5
      try go_wp2_with fail
      refine hK.out _ _ e5 (fun _ => ?_)
      clear hK K
      try simp only [Act.put, List.setIfInBounds_toArray, List.set_cons_zero, List.set_cons_succ]
      have HR := Lib.hid hr
      clear hr
      refine take_at 6 (some 4) (.int .i64 (x 0)) rfl rfl (by kernel_rfl) (by kernel_rfl) (by kernel_rfl) (fun _ _ _ h => h) (Or.inl ⟨by rfl, fun w' hSw => ?_⟩) (e5) ?_
      · skip
        try clear hSw
        go_simp
        all_goals (with_reducible rfl)
      try simp only [Act.put, List.setIfInBounds_toArray, List.set_cons_zero, List.set_cons_succ]
      refine take_at 7 (some 5) (.bool r) rfl rfl (by kernel_rfl) (by kernel_rfl) (by kernel_rfl) (fun _ _ _ h => h) (Or.inl ⟨by rfl, fun w' hSw => ?_⟩) (e5) ?_
      · skip
        try clear hSw
        go_simp
        all_goals (with_reducible rfl)
      try simp only [Act.put, List.setIfInBounds_toArray, List.set_cons_zero, List.set_cons_succ]
      refine take_at 8 (some 6) (.int .i64 0) rfl rfl (by kernel_rfl) (by kernel_rfl) (by kernel_rfl) (fun _ _ _ h => h) (Or.inl ⟨by rfl, fun w' hSw => ?_⟩) (e5) ?_
      · skip
        try clear hSw
        go_simp
        all_goals (with_reducible rfl)
      try simp only [Act.put, List.setIfInBounds_toArray, List.set_cons_zero, List.set_cons_succ]
      refine wpAnyH_done (by kernel_rfl) ?_ _
      refine NoPanic.normal ?_
      have HX5 := Lib.hid (HX.out.trans e5)
      clear hb5 e5
      go_wp2
      refine bodyPost_ret (v := .tuple #[.int .i64 (x 0), .bool r, .int .i64 0]) (by simp [results, Tryd.results25, go_sem]) rfl ?_
      exact ⟨.inr (.inr (.inr ⟨HW.out, rfl, HB.out, r, rfl, HR.out⟩)), HX5.out⟩
  · have hnb : ((n : Int) != (Bw.sz ws : Nat)) = true := by simp; omega
    have HNE := Lib.hid hn
    clear hn
    go_wp2
    refine bodyPost_ret (v := .tuple #[.int .i64 0, .bool false, .int .i64 3]) (by simp [results, Tryd.results25, go_sem]) rfl ?_
    exact ⟨.inr (.inl ⟨HW.out, HNE.out, rfl⟩), HX.out⟩

end Go.Proofs.YtlachbodibajlaaDoor
