/- Walks: network.walk. · Walks: newNetwork. -/
import Derived.Test.YtilcbbdmenknfaaM4
import Derived.Deep.LoopGhost
namespace Go.Proofs.Ytilcbbdmenknfaa
open Go.RowKit

/-- what holds while the walk is under way -/
structure Wc (W : World) (G : Nw) (N a : Nat) (op : Nat → Bool) (g1 g2 k : Nat) (q : Value) (wr : World) (ex : Nat → Prop) (R : Nat → Bool) (la rk : Nat → Nat) (big : Nat) (l : List Nat) : Prop where
  qs : Qs wr W.heap.size q l.length (fun i => ((l.getD i 0 : Nat) : Int))
  o1 : q.ownBlock ≠ some g1
  o2 : q.ownBlock ≠ some g2
  bR : BB wr g1 N R
  bL : BI wr g2 N (fun v => ((la v : Nat) : Int))
  wq : Wq G N a op R la rk big l ex
  le : un R N + l.length ≤ k
  leN : un R N + l.length ≤ N
  ext : Ext W wr
theorem Wc.next {W X Y : World} {G : Nw} {N a g1 g2 k : Nat} {op : Nat → Bool} {q : Value} {ex : Nat → Prop} {R : Nat → Bool} {la rk : Nat → Nat} {big : Nat} {l : List Nat} (h : Wc W G N a op g1 g2 k q X ex R la rk big l) (e : Ext X Y) :
    Wc W G N a op g1 g2 k q Y ex R la rk big l := ⟨h.qs.ext e, h.o1, h.o2, h.bR.ext e, h.bL.ext e, h.wq, h.le, h.leN, h.ext.trans e⟩
def Wrel (W : World) (G : Nw) (N a : Nat) (op : Nat → Bool) (g1 g2 : Nat) (k : Nat) (q : Value) (wr : World) : Prop :=
  ∃ R la rk big l, Wc W G N a op g1 g2 k q wr (fun _ => False) R la rk big l
/-- .. and inside, at node u, when the first i of its steps ls have been looked at -/
def Wrin (W : World) (G : Nw) (N a : Nat) (op : Nat → Bool) (g1 g2 : Nat) (k : Nat) (q : Value) (wr : World) (u : Nat) (ls : List Nat) (i : Nat) : Prop :=
  ∃ R la rk big l, Wc W G N a op g1 g2 k q wr (fun v => v = u) R la rk big l ∧ R u = true ∧ ∀ j, j < i → op (ls.getD j 0) = true → R (G.hd (ls.getD j 0)) = true

set_option maxHeartbeats 4000000 in
set_option maxRecDepth 100000 in
theorem walk_any (s t : Int) (AV SV : Value) (a : Ar) (N : Nat) (M : Int) (st : Nat → List Nat) (fr id g bs : Nat) (op : Nat → Bool) (W : World) (hA : Al W AV a) (hO : a.Ok N M) (hn : a.n ≤ 1000) (hN : N ≤ 1000)
    (hS : Sl W bs SV N st) (hst : Stp a.nw N st) (hf : fr < N) (hcf : ∀ args w, (callFunc id args).run Try.prog w = .ok (.enter id args) w)
    (hop : ∀ X, Ext W X → ∀ j, j < 2 * a.n → Calls Try.prog id #[.int .i64 j, .pointer (some ⟨g, 0, none⟩)] X fun e X' => e = .returned (.bool (op j)) ∧ Ext X X') :
    Calls Try.prog 80 #[.agg #[.int .i64 s, .int .i64 t, AV, SV], .int .i64 fr, .func (.func id) #[] #[.pointer (some ⟨g, 0, none⟩)]] W fun e W' => ∃ R la rk h1 h2,
      e = .returned (.tuple #[.slice (some ⟨h1, 0, none⟩) N N, .slice (some ⟨h2, 0, none⟩) N N]) ∧ W.heap.size ≤ h1 ∧ W.heap.size ≤ h2 ∧ h1 ≠ h2 ∧
      BB W' h1 N R ∧ BI W' h2 N (fun v => ((la v : Nat) : Int)) ∧ a.nw.Wk N fr op R la rk ∧ (∀ v, R v = true → v < N) ∧ Ext W W' := by
  have hm1 : ∀ w, (Instr.makeSlice 40 (.int .i64 (N : Int)) (.int .i64 (N : Int))).run Try.prog w = .ok (.slice (some ⟨w.heap.size, 0, none⟩) N N) (w.alloc (.cells (Array.ofFn fun _ : Fin N => .bool false) 4)) := fun w => make_one 40 4 _ 1 Try.underlying40 info4 rfl (by omega) N (by omega) w
  have hm2 : ∀ w, (Instr.makeSlice 33 (.int .i64 (N : Int)) (.int .i64 (N : Int))).run Try.prog w = .ok (.slice (some ⟨w.heap.size, 0, none⟩) N N) (w.alloc (.cells (Array.ofFn fun _ : Fin N => .int .i64 0) 3)) := fun w => make_one 33 3 _ 8 Try.underlying33 info3 rfl (by omega) N (by omega) w
  have HA := Lib.hid hA; have HO := Lib.hid hO; have HS := Lib.hid hS; have HST := Lib.hid hst; have HOP := Lib.hid hop; have HCF := Lib.hid hcf
  clear hA hO hst hop hcf
  obtain ⟨gs, cs, rfl, hgs, -, -⟩ := hS
  go_enter Try.func80, Try.ntmps80
  go_wp2_with fail
  have bb := al1 W (.cells #[.int .i64 s, .int .i64 t, AV, .slice (some ⟨gs, 0, none⟩) N cs] 85)
  have q3 : (W.alloc (.cells #[.int .i64 s, .int .i64 t, AV, .slice (some ⟨gs, 0, none⟩) N cs] 85)).cell? ⟨W.heap.size, 3, none⟩ = some (.slice (some ⟨gs, 0, none⟩) N cs) := by rw [World.cell?_alloc_new]; rfl
  have q2 : (W.alloc (.cells #[.int .i64 s, .int .i64 t, AV, .slice (some ⟨gs, 0, none⟩) N cs] 85)).cell? ⟨W.heap.size, 2, none⟩ = some AV := by rw [World.cell?_alloc_new]; rfl
  have q1 : (W.alloc (.cells #[.int .i64 s, .int .i64 t, AV, .slice (some ⟨gs, 0, none⟩) N cs] 85)).cell? ⟨W.heap.size, 1, none⟩ = some (.int .i64 t) := by rw [World.cell?_alloc_new]; rfl
  have q0 : (W.alloc (.cells #[.int .i64 s, .int .i64 t, AV, .slice (some ⟨gs, 0, none⟩) N cs] 85)).cell? ⟨W.heap.size, 0, none⟩ = some (.int .i64 s) := by rw [World.cell?_alloc_new]; rfl
  have zz : (W.alloc (.cells #[.int .i64 s, .int .i64 t, AV, .slice (some ⟨gs, 0, none⟩) N cs] 85)).heap.size = W.heap.size + 1 := by simp
  generalize W.alloc (.cells #[.int .i64 s, .int .i64 t, AV, .slice (some ⟨gs, 0, none⟩) N cs] 85) = W1 at *
  have HB : Hid (Ext W W1) := Lib.hid bb
  have zle : W.heap.size < W1.heap.size := by omega
  have HQ := Lib.hid (And.intro q0 (And.intro q1 (And.intro q2 q3)))
  clear bb zz q0 q1 q2 q3
  go_cut [6, 7] from 13 to 20 (fun s6 s7 wx => ∃ g1 g2, s6 = .slice (some ⟨g1, 0, none⟩) N N ∧ s7 = .slice (some ⟨g2, 0, none⟩) N N ∧ W1.heap.size ≤ g1 ∧ W1.heap.size ≤ g2 ∧ g1 ≠ g2 ∧ BB wx g1 N (fun _ => false) ∧ BI wx g2 N (fun _ => 0) ∧ Ext W1 wx)
  case first =>
    obtain ⟨-, -, -, q3⟩ := HQ.out
    refine wp_region_noPanic ?_
    refine wp_region_held_drew (S := fun X => Ext W1 X) (by kernel_rfl) (Ext.drw (Ext.refl _)) (fun _ => ?_)
    refine take_at 0 (some 13) (.pointer (some ⟨W.heap.size, 3, none⟩)) rfl rfl (by kernel_rfl) (by kernel_rfl) (by kernel_rfl) (fun _ _ _ h => h) (Or.inl ⟨by rfl, fun w' hSw => ?_⟩) (Ext.drw (Ext.refl _)) ?_
    · skip
      try clear hSw
      go_simp
      all_goals (with_reducible rfl)
    try simp only [Act.put, List.setIfInBounds_toArray, List.set_cons_zero, List.set_cons_succ]
    refine take_at 1 (some 14) (.slice (some ⟨gs, 0, none⟩) N cs) rfl rfl (by kernel_rfl) (by kernel_rfl) (by kernel_rfl) (fun _ _ _ h => h) (Or.inl ⟨by rfl, fun w' hSw => ?_⟩) (Ext.drw (Ext.refl _)) ?_
    · have k3 := keepAt hSw zle q3
      try clear hSw
      go_simp
      all_goals (with_reducible rfl)
    try simp only [Act.put, List.setIfInBounds_toArray, List.set_cons_zero, List.set_cons_succ]
    refine take_at 2 (some 15) (.int .i64 N) rfl rfl (by kernel_rfl) (by kernel_rfl) (by kernel_rfl) (fun _ _ _ h => h) (Or.inl ⟨by rfl, fun w' hSw => ?_⟩) (Ext.drw (Ext.refl _)) ?_
    · skip
      try clear hSw
      go_simp
      all_goals (with_reducible rfl)
    try simp only [Act.put, List.setIfInBounds_toArray, List.set_cons_zero, List.set_cons_succ]
    refine take_at 4 (some 17) (.pointer (some ⟨W.heap.size, 3, none⟩)) rfl rfl (by kernel_rfl) (by kernel_rfl) (by kernel_rfl) (fun _ _ _ h => h) (Or.inl ⟨by rfl, fun w' hSw => ?_⟩) (Ext.drw (Ext.refl _)) ?_
    · skip
      try clear hSw
      go_simp
      all_goals (with_reducible rfl)
    try simp only [Act.put, List.setIfInBounds_toArray, List.set_cons_zero, List.set_cons_succ]
    refine take_at 5 (some 18) (.slice (some ⟨gs, 0, none⟩) N cs) rfl rfl (by kernel_rfl) (by kernel_rfl) (by kernel_rfl) (fun _ _ _ h => h) (Or.inl ⟨by rfl, fun w' hSw => ?_⟩) (Ext.drw (Ext.refl _)) ?_
    · have k3 := keepAt hSw zle q3
      try clear hSw
      go_simp
      all_goals (with_reducible rfl)
    try simp only [Act.put, List.setIfInBounds_toArray, List.set_cons_zero, List.set_cons_succ]
    refine take_at 6 (some 19) (.int .i64 N) rfl rfl (by kernel_rfl) (by kernel_rfl) (by kernel_rfl) (fun _ _ _ h => h) (Or.inl ⟨by rfl, fun w' hSw => ?_⟩) (Ext.drw (Ext.refl _)) ?_
    · skip
      try clear hSw
      go_simp
      all_goals (with_reducible rfl)
    try simp only [Act.put, List.setIfInBounds_toArray, List.set_cons_zero, List.set_cons_succ]
    refine wpAnyH_ready (rs := [3, 7]) (by kernel_rfl) (by simp) ?_
    refine AllReadyH.cons rfl (fun K hK => ?_) (AllReadyH.cons rfl (fun K hK => ?_) AllReadyH.nil)
    · go_simp
      have e1 : Ext W1 (W1.drew.alloc (.cells (Array.ofFn fun _ : Fin N => Value.bool false) 4)) := Ext.alc (Ext.drw (Ext.refl _)) _
      refine hK.out _ _ e1 (fun _ => ?_)
      clear hK K
      try simp only [Act.put, List.setIfInBounds_toArray, List.set_cons_zero, List.set_cons_succ]
      refine take_at 8 (some 6) (.slice (some ⟨W1.heap.size, 0, none⟩) N N) rfl rfl (by kernel_rfl) (by kernel_rfl) (by kernel_rfl) (fun _ _ _ h => h) (Or.inl ⟨by rfl, fun w' hSw => ?_⟩) (e1) ?_
      · skip
        try clear hSw
        go_simp
        all_goals (with_reducible rfl)
      try simp only [Act.put, List.setIfInBounds_toArray, List.set_cons_zero, List.set_cons_succ]
      refine wpAnyH_ready (rs := [7]) (by kernel_rfl) (by simp) ?_
      refine AllReadyH.cons rfl (fun K hK => ?_) AllReadyH.nil
      go_simp
      have e2 : Ext W1 ((W1.drew.alloc (.cells (Array.ofFn fun _ : Fin N => Value.bool false) 4)).alloc (.cells (Array.ofFn fun _ : Fin N => Value.int .i64 0) 3)) := Ext.alc e1 _
      refine hK.out _ _ e2 (fun _ => ?_)
      clear hK K
      try simp only [Act.put, List.setIfInBounds_toArray, List.set_cons_zero, List.set_cons_succ]
      refine take_at 9 (some 7) (.slice (some ⟨W1.heap.size + 1, 0, none⟩) N N) rfl rfl (by kernel_rfl) (by kernel_rfl) (by kernel_rfl) (fun _ _ _ h => h) (Or.inl ⟨by rfl, fun w' hSw => ?_⟩) (e2) ?_
      · skip
        try clear hSw
        go_simp
        all_goals (with_reducible rfl)
      try simp only [Act.put, List.setIfInBounds_toArray, List.set_cons_zero, List.set_cons_succ]
      refine wpAnyH_done (by kernel_rfl) ?_ _
      refine NoPanic.normal ?_
      go_wp2_with fail
      go_meet
      exact ⟨W1.heap.size, W1.heap.size + 1, rfl, rfl, by omega, by omega, by omega, Bk.alloc (t := 4) (n := N) (f := fun _ => Value.bool false) (heap_alloc_new W1.drew _) _, (by have := heap_alloc_new (W1.drew.alloc (.cells (Array.ofFn fun _ : Fin N => Value.bool false) 4)) (.cells (Array.ofFn fun _ : Fin N => Value.int .i64 0) 3); simp only [World.size_alloc, World.size_drew] at this; exact this), e2⟩
    · go_simp
      have e1 : Ext W1 (W1.drew.alloc (.cells (Array.ofFn fun _ : Fin N => Value.int .i64 0) 3)) := Ext.alc (Ext.drw (Ext.refl _)) _
      refine hK.out _ _ e1 (fun _ => ?_)
      clear hK K
      try simp only [Act.put, List.setIfInBounds_toArray, List.set_cons_zero, List.set_cons_succ]
      refine wpAnyH_ready (rs := [3]) (by kernel_rfl) (by simp) ?_
      refine AllReadyH.cons rfl (fun K hK => ?_) AllReadyH.nil
      go_simp
      have e2 : Ext W1 ((W1.drew.alloc (.cells (Array.ofFn fun _ : Fin N => Value.int .i64 0) 3)).alloc (.cells (Array.ofFn fun _ : Fin N => Value.bool false) 4)) := Ext.alc e1 _
      refine hK.out _ _ e2 (fun _ => ?_)
      clear hK K
      try simp only [Act.put, List.setIfInBounds_toArray, List.set_cons_zero, List.set_cons_succ]
      refine take_at 8 (some 6) (.slice (some ⟨W1.heap.size + 1, 0, none⟩) N N) rfl rfl (by kernel_rfl) (by kernel_rfl) (by kernel_rfl) (fun _ _ _ h => h) (Or.inl ⟨by rfl, fun w' hSw => ?_⟩) (e2) ?_
      · skip
        try clear hSw
        go_simp
        all_goals (with_reducible rfl)
      try simp only [Act.put, List.setIfInBounds_toArray, List.set_cons_zero, List.set_cons_succ]
      refine take_at 9 (some 7) (.slice (some ⟨W1.heap.size, 0, none⟩) N N) rfl rfl (by kernel_rfl) (by kernel_rfl) (by kernel_rfl) (fun _ _ _ h => h) (Or.inl ⟨by rfl, fun w' hSw => ?_⟩) (e2) ?_
      · skip
        try clear hSw
        go_simp
        all_goals (with_reducible rfl)
      try simp only [Act.put, List.setIfInBounds_toArray, List.set_cons_zero, List.set_cons_succ]
      refine wpAnyH_done (by kernel_rfl) ?_ _
      refine NoPanic.normal ?_
      go_wp2_with fail
      go_meet
      exact ⟨W1.heap.size + 1, W1.heap.size, rfl, rfl, by omega, by omega, by omega, (by have := heap_alloc_new (W1.drew.alloc (.cells (Array.ofFn fun _ : Fin N => Value.int .i64 0) 3)) (.cells (Array.ofFn fun _ : Fin N => Value.bool false) 4); simp only [World.size_alloc, World.size_drew] at this; exact this), Bk.alloc (t := 3) (n := N) (f := fun _ => Value.int .i64 0) (heap_alloc_new W1.drew _) _, e2⟩
  case rest =>
    obtain ⟨g1, g2, rfl, rfl, hg1, hg2, hne, y1, y2, ex⟩ := hcut
    have EX := Lib.hid ex
    have lsz : W1.heap.size ≤ wc.heap.size := ex.size
    have l1 := Bk.lt y1
    have l2 := Bk.lt y2
    have c6 := Bk.cell y1 hf
    have f6 := Bk.free y1 fr
    have z1 := BB.set_ y1 fr true
    have z2 : BI (wc.setCell ⟨g1, fr, none⟩ (.bool true)) g2 N (fun _ => 0) := Bk.far y2 (fun e => hne e.symm) _
    have e1 : Ext W1 (wc.setCell ⟨g1, fr, none⟩ (.bool true)) := Ext.sc ex (by omega)
    have Z1 := Lib.hid z1; have Z2 := Lib.hid z2; have E1 := Lib.hid e1
    clear y1 y2 ex z1 z2 e1
    go_wp2_with fail
    clear c6 f6
    go_loopg [8] N (fun k q wr => Wrel W1 a.nw N fr op g1 g2 k q wr)
    case atStart =>
      have hs : (wc.setCell ⟨g1, fr, none⟩ (.bool true)).heap.size = wc.heap.size := by simp [World.setCell]
      have hq := Qs.one (wc.setCell ⟨g1, fr, none⟩ (.bool true)) W1.heap.size fr (by omega) (fun i => (([fr].getD i 0 : Nat) : Int)) rfl
      have hw := Wq.start (G := a.nw) (op := op) hf (fun _ => 0)
      have hun : un (up (fun _ => false) fr true) N + 1 ≤ N := by rw [un_up hf rfl]; exact un_le _ _
      rw [hs] at hq
      exact ⟨_, _, _, _, [fr], hq, by simp [Value.ownBlock]; omega, by simp [Value.ownBlock]; omega, Z1.out.ext (Ext.alc (Ext.refl _) _), Z2.out.ext (Ext.alc (Ext.refl _) _), hw, hun, hun, E1.out.alc _⟩
    case round =>
      obtain ⟨R, la, rk, big, l, hwc⟩ := hrel
      have HWC := Lib.hid hwc
      obtain ⟨A, c, rfl, hlc, hcm, hcell⟩ := hwc.qs.il
      clear hwc
      cases l with
      | nil =>
        simp only [List.length_nil] at *
        clear hcell
        go_wp2
        refine bodyPost_ret (v := .tuple #[.slice (some ⟨g1, 0, none⟩) N N, .slice (some ⟨g2, 0, none⟩) N N]) (by simp [results, Try.results80, go_sem]) rfl ?_
        have h := HWC.out
        exact ⟨R, la, rk, g1, g2, rfl, by omega, by omega, hne, h.bR, h.bL, h.wq.wk, h.wq.low, HB.out.trans h.ext⟩
      | cons u l =>
        simp only [List.length_cons] at *
        obtain ⟨b, off, rfl, hb, hcl⟩ := hcell (by omega)
        have hc0 := hcl 0 (by omega)
        simp only [List.getD_cons_zero, Nat.add_zero] at hc0
        obtain ⟨hu, hRu⟩ := HWC.out.wq.qin u (by simp)
        clear hcl hcell
        go_upto_region 6 with fail
        go_cut [8] from 32 to 33 (fun q wx => (∃ o', q = .slice (some ⟨b, o', none⟩) l.length (c - 1) ∧ (0 < c - 1 → o' = off + 1)) ∧ wx = wr)
        case first =>
          clear HWC hRu
          by_cases hc1 : c = 1
          · subst hc1
            go_wp2_with fail
            go_meet
            have h0 : l.length = 0 := by omega
            exact ⟨⟨off, by rw [h0], fun h => by omega⟩, rfl⟩
          · go_wp2_with fail
            go_meet
            exact ⟨⟨off + 1, rfl, fun _ => rfl⟩, rfl⟩
        case rest =>
          obtain ⟨⟨o', rfl, ho'⟩, hwc⟩ := hcut
          rw [hwc]; clear hwc
          have hin : Wrin W1 a.nw N fr op g1 g2 (gk - 1) (.slice (some ⟨b, o', none⟩) l.length (c - 1)) wr u (st u) 0 := by
            have h := HWC.out
            have h1 := h.qs.tail (some ⟨b, o', none⟩) (fun b' hb' => h.qs.1 b' hb') (fun g off' e hp => by injection e with e; injection e with e1 e2; rw [ho' hp, ← e1, ← e2])
            have h2 := h.le; have h3 := h.leN
            simp only [List.length_cons] at h2 h3
            exact ⟨R, la, rk, big, l, ⟨h1, h.o1, h.o2, h.bR, h.bL, h.wq.pop, by omega, by omega, h.ext⟩, hRu, fun j hj => by omega⟩
          have hgk : 0 < gk := by have h2 := HWC.out.le; simp only [List.length_cons] at h2; omega
          have HIN := Lib.hid hin
          clear hin hc0 hRu ho'
          obtain ⟨-, -, -, q3⟩ := HQ.out
          have k3 := keepAt HWC.out.ext zle q3
          have hrow : ∃ uv, W.cell? ⟨gs, u, none⟩ = some uv ∧ Il W uv (st u).length (fun k => (((st u).getD k 0 : Nat) : Int)) := by
            obtain ⟨b', c', e', hb', -, hr⟩ := HS.out
            injection e' with e1; injection e1 with e1; injection e1 with e1
            subst e1
            obtain ⟨uv, k1, k2, -⟩ := hr u hu
            exact ⟨uv, k1, k2⟩
          obtain ⟨uv, hr1, hr2⟩ := hrow
          obtain ⟨Ar', cr, rfl, hr3, hr4, hr5⟩ := hr2
          have k5 := keepAt (HB.out.trans HWC.out.ext) hgs hr1
          clear hr1 q3 HWC
          have HR5 := Lib.hid hr5; clear hr5
          have hln := HST.out.len u hu
          obtain ⟨n, hn'⟩ : ∃ n, n = (st u).length := ⟨_, rfl⟩
          rw [← hn'] at hr3 hln HR5 k5
          have Hn := Lib.hid hn'; clear hn'
          have hnm : n ≤ 2000 := by have : a.nw.m = a.n := rfl; omega
          clear hln
          go_wp2_with fail
          clear k3 k5
          go_loopw [8, 40] (fun q i wr => ∃ k : Nat, i = .int .i64 k ∧ k ≤ n ∧ Hid (Wrin W1 a.nw N fr op g1 g2 (gk - 1) q wr u (st u) k)) (fun _ i _ => n - (intOf i).toNat)
          case atStart => exact ⟨0, rfl, Nat.zero_le _, HIN⟩
          case round =>
            clear HIN
            obtain ⟨k, rfl, hk, hin⟩ := hrel
            by_cases hlt : k < n
            · obtain ⟨R, la, rk, big, l, hwc, hRu, hpr⟩ := hin.out
              clear hin
              have HWC := Lib.hid hwc; have HPR := Lib.hid hpr; clear hwc hpr
              obtain ⟨br, offr, rfl, hbr, hcr⟩ := HR5.out (by omega)
              have hc1 := hcr k hlt
              obtain ⟨j, hj⟩ : ∃ j, j = (st u).getD k 0 := ⟨_, rfl⟩
              rw [← hj] at hc1
              have hjm : j ∈ st u := by rw [hj, List.getD_eq_getElem?_getD, List.getElem?_eq_getElem (by rw [← Hn.out]; exact hlt)]; simp
              obtain ⟨hj2, hjt⟩ := (HST.out.mem u hu j).1 hjm
              have k6 := keepAt (HB.out.trans HWC.out.ext) hbr hc1
              have Hj := Lib.hid hj
              have hjl : j < 2 * a.n := hj2
              have Hjt := Lib.hid hjt
              clear hcr hc1 hj hjm hj2 hjt
              obtain ⟨q0, q1, q2, q3⟩ := HQ.out
              have k0 := keepAt HWC.out.ext zle q0
              have k1 := keepAt HWC.out.ext zle q1
              have k2 := keepAt HWC.out.ext zle q2
              have k3 := keepAt HWC.out.ext zle q3
              clear q0 q1 q2 q3
              go_wp2_with fail
              refine (end_any s t AV _ a N M j _ (HA.out.ext (HB.out.trans HWC.out.ext)) HO.out hjl hn).mono ?_
              rintro e w1 ⟨rfl, hx⟩
              replace HWC := Lib.hid (HWC.out.next hx)
              clear hx k0 k1 k2 k3 k6
              obtain ⟨v, hv⟩ : ∃ v, v = a.nw.hd j := ⟨_, rfl⟩
              rw [← hv]
              have Hv := Lib.hid hv
              have hvN : v < N := by
                have : (a.f (j / 2)).toNat < N ∧ (a.t (j / 2)).toNat < N := by
                  have h1 := HO.out.fN (j / 2) (by omega); have h2 := HO.out.tN (j / 2) (by omega)
                  have h3 := HO.out.f0 (j / 2) (by omega); have h4 := HO.out.t0 (j / 2) (by omega)
                  omega
                rw [hv]; unfold Nw.hd Ar.nw; split
                · exact this.2
                · exact this.1
              clear hv
              go_wp2_with fail
              rw [HCF.out]
              cases ho : op j
              · refine (HOP.out _ (HB.out.trans HWC.out.ext) j hjl).mono ?_
                rw [ho]
                rintro e w2 ⟨rfl, hx⟩
                replace HWC := Lib.hid (HWC.out.next hx)
                have Ho := Lib.hid ho
                clear hx ho
                go_wp2
                go_roundw
                case rel =>
                  refine ⟨k + 1, by go_num, by omega, Lib.hid ⟨R, la, rk, big, l, HWC.out, hRu, fun i hi hoi => ?_⟩⟩
                  by_cases e : i = k
                  · subst e; rw [← Hj.out, Ho.out] at hoi; cases hoi
                  · exact HPR.out i (by omega) hoi
                case measure => simp [intOf]; omega
              · refine (HOP.out _ (HB.out.trans HWC.out.ext) j hjl).mono ?_
                rw [ho]
                rintro e w2 ⟨rfl, hx⟩
                replace HWC := Lib.hid (HWC.out.next hx)
                have Ho := Lib.hid ho
                clear hx ho
                have c6 := Bk.cell HWC.out.bR hvN
                have f6 := Bk.free HWC.out.bR v
                cases hRv : R v
                · rw [hRv] at c6
                  have c7 := Bk.cell HWC.out.bL hvN
                  have f7 := Bk.free HWC.out.bL v
                  have m6 := Bk.lt HWC.out.bR
                  have m7 := Bk.lt HWC.out.bL
                  have HRv := Lib.hid hRv; clear hRv
                  go_upto_region 13 with fail
                  have y1 := BB.set_ HWC.out.bR v true
                  have y2 : BI (w2.setCell ⟨g1, v, none⟩ (.bool true)) g2 N (fun v => ((la v : Nat) : Int)) := Bk.far HWC.out.bL (fun e => hne e.symm) _
                  have y3 := BI.set_ y2 v j
                  have y4 : BB ((w2.setCell ⟨g1, v, none⟩ (.bool true)).setCell ⟨g2, v, none⟩ (.int .i64 j)) g1 N (up R v true) := Bk.far y1 hne _
                  have yq : Qs ((w2.setCell ⟨g1, v, none⟩ (.bool true)).setCell ⟨g2, v, none⟩ (.int .i64 j)) W1.heap.size u8 l.length (fun i => ((l.getD i 0 : Nat) : Int)) := HWC.out.qs.block (by simp [World.setCell]) (fun g hg => by
                    rw [Below.heap_setCell _ ⟨g2, v, none⟩ _ g (fun e => HWC.out.o2 (by rw [hg]; exact congrArg some e)), Below.heap_setCell _ ⟨g1, v, none⟩ _ g (fun e => HWC.out.o1 (by rw [hg]; exact congrArg some e))])
                  have ye : Ext W1 ((w2.setCell ⟨g1, v, none⟩ (.bool true)).setCell ⟨g2, v, none⟩ (.int .i64 j)) := (HWC.out.ext.sc (by omega)).sc (by omega)
                  have ys : ((w2.setCell ⟨g1, v, none⟩ (.bool true)).setCell ⟨g2, v, none⟩ (.int .i64 j)).heap.size = w2.heap.size := by simp [World.setCell]
                  have yo := And.intro HWC.out.o1 HWC.out.o2
                  have yw := And.intro HWC.out.wq (And.intro HWC.out.le HWC.out.leN)
                  have YW := Lib.hid yw; have YO := Lib.hid yo
                  clear y1 y2 yw yo HWC c6 f6 c7 f7
                  generalize (w2.setCell ⟨g1, v, none⟩ (.bool true)).setCell ⟨g2, v, none⟩ (.int .i64 j) = w3 at *
                  have Y3 := Lib.hid y3; have Y4 := Lib.hid y4; have YQ := Lib.hid yq; have YE := Lib.hid ye
                  have ylen : l.length ≤ N := by have := YW.out.2.2; omega
                  have yle : W1.heap.size ≤ w3.heap.size := YE.out.size
                  rw [← ys] at m6 m7
                  clear y3 y4 yq ye ys
                  obtain ⟨i0, hi, hz0, hz1, hz2⟩ := info_parts info3
                  go_wp2_with (at_builtin; refine wpList_append_q rfl _ _ 33 rfl i0 Try.underlying33 hi hz0 hz1 hz2 W1.heap.size _ l.length (fun i => ((l.getD i 0 : Nat) : Int)) rfl ?qs ?base ⟨w3.heap.size, 0, none⟩ 1 v rfl ?cell ?n ?_)
                  case qs => exact YQ.out.ext (Ext.alc (Ext.refl _) _)
                  case base => simp; omega
                  case cell => rw [World.cell?_alloc_new]; rfl
                  case n => omega
                  intro v' w4 hq4 hgr
                  have hle4 : w3.heap.size + 1 ≤ w4.heap.size := by have := hgr.by_.size; simpa using this
                  have g4 := hgr.bb (Y4.out.ext (Ext.alc (Ext.refl _) _)) YO.out.1
                  have g3 := hgr.bi (Y3.out.ext (Ext.alc (Ext.refl _) _)) YO.out.2
                  have ge := hgr.ext (YE.out.alc _) (fun b hb => (YQ.out.1 b hb).1)
                  have o1 := hgr.apart (b := g1) (by simp; omega) YO.out.1
                  have o2 := hgr.apart (b := g2) (by simp; omega) YO.out.2
                  have HH := Lib.hid (And.intro hq4 (And.intro g4 (And.intro g3 (And.intro ge (And.intro o1 o2)))))
                  clear hq4 hgr g4 g3 ge o1 o2
                  go_wp2
                  go_roundw
                  case rel =>
                    obtain ⟨hq4, g4, g3, ge, o1, o2⟩ := HH.out
                    obtain ⟨hwq, hle, hleN⟩ := YW.out
                    have hp := hwq.push hjl Ho.out (by rw [Hjt.out]; exact hRu) (by rw [← Hv.out]; exact HRv.out) (by rw [← Hv.out]; exact hvN)
                    rw [← Hv.out] at hp
                    have hun := un_up (R := R) hvN HRv.out
                    have hup : ∀ w, R w = true → up R v true w = true := fun w hw => by
                      by_cases e : w = v
                      · rw [e, up_self]
                      · rw [up_ne _ _ e]; exact hw
                    refine ⟨k + 1, by go_num, by omega, Lib.hid ⟨_, _, _, _, l ++ [v], ⟨?_, o1, o2, g4, ?_, hp, ?_, ?_, ge⟩, hup u hRu, fun i hi hoi => ?_⟩⟩
                    · rw [List.length_append]
                      refine hq4.congr fun i hi => ?_
                      by_cases e : i = l.length
                      · subst e; rw [up_self]; simp
                      · rw [up_ne _ _ e]; simp only [List.getD_eq_getElem?_getD]; rw [List.getElem?_append_left (by omega)]
                    · refine Bk.congr g3 fun i _ => ?_
                      by_cases e : i = v
                      · subst e; simp only [up_self]
                      · simp only [up_ne _ _ e]
                    · simp only [List.length_append, List.length_singleton]; omega
                    · simp only [List.length_append, List.length_singleton]; omega
                    · by_cases e : i = k
                      · subst e; rw [← Hj.out, ← Hv.out, up_self]
                      · exact hup _ (HPR.out i (by omega) hoi)
                  case measure => simp [intOf]; omega
                · rw [hRv] at c6
                  have HRv := Lib.hid hRv; clear hRv
                  go_wp2
                  go_roundw
                  case rel =>
                    refine ⟨k + 1, by go_num, by omega, Lib.hid ⟨R, la, rk, big, l, HWC.out, hRu, fun i hi hoi => ?_⟩⟩
                    by_cases e : i = k
                    · subst e; rw [← Hj.out, ← Hv.out]; exact HRv.out
                    · exact HPR.out i (by omega) hoi
                  case measure => simp [intOf]; omega
            · obtain rfl : k = n := by omega
              go_wp2
              go_roundg (gk - 1)
              case measure => omega
              case rel =>
                obtain ⟨R, la, rk, big, l, hwc, hRu, hpr⟩ := hin.out
                refine ⟨R, la, rk, big, l, hwc.qs, hwc.o1, hwc.o2, hwc.bR, hwc.bL, hwc.wq.shut fun j hj ht hoj => ?_, hwc.le, hwc.leN, hwc.ext⟩
                have hm := (HST.out.mem u hu j).2 ⟨hj, ht⟩
                obtain ⟨i, hi, e⟩ := List.getElem_of_mem hm
                have := hpr i (by rw [Hn.out]; exact hi)
                rw [List.getD_eq_getElem?_getD, List.getElem?_eq_getElem hi] at this
                simp only [Option.getD_some, e] at this
                exact this hoj
end Go.Proofs.Ytilcbbdmenknfaa
namespace Go.Proofs.Ytilcbbdmenknfaa
open Go.RowKit

/-- the steps of the first k arcs that start at v -/
def stf (G : Nw) (k v : Nat) : List Nat := (List.range (2 * k)).filter fun j => decide (G.tl j = v)
theorem stf_stp (G : Nw) (N : Nat) : Stp G N (stf G G.m) := by
  refine ⟨fun v _ j => ?_, fun v _ => ?_⟩
  · unfold stf; simp
  · unfold stf; exact Nat.le_trans (List.length_filter_le _ _) (by simp)
theorem stf_succ (G : Nw) (k v : Nat) : stf G (k + 1) v = stf G k v ++ ((if G.fr k = v then [2 * k] else []) ++ (if G.to k = v then [2 * k + 1] else [])) := by
  have e : List.range (2 * (k + 1)) = List.range (2 * k) ++ [2 * k, 2 * k + 1] := by
    rw [show 2 * (k + 1) = 2 * k + 1 + 1 by omega, List.range_succ, List.range_succ]; simp
  unfold stf
  rw [e, List.filter_append]
  congr 1
  have t1 : G.tl (2 * k) = G.fr k := by unfold Nw.tl; rw [if_pos (by omega)]; congr 1; omega
  have t2 : G.tl (2 * k + 1) = G.to k := by unfold Nw.tl; rw [if_neg (by omega)]; congr 1; omega
  by_cases h1 : G.fr k = v <;> by_cases h2 : G.to k = v <;> simp [List.filter_cons, t1, t2, h1, h2]

theorem stf_up (G : Nw) {k fk tk : Nat} {st2 : Nat → List Nat} (hne : fk ≠ tk) (h1 : G.fr k = fk) (h2 : G.to k = tk) (h3 : st2 = up (stf G k) fk (stf G k fk ++ [2 * k])) : up st2 tk (st2 tk ++ [2 * k + 1]) = stf G (k + 1) := by
  funext v
  have hne2 : tk ≠ fk := fun e => hne e.symm
  rw [stf_succ, h1, h2, h3]
  by_cases e1 : v = tk
  · subst e1
    rw [up_self, up_ne _ _ hne2, if_neg hne, if_pos rfl]
    rfl
  · rw [up_ne _ _ e1, if_neg (fun e : tk = v => e1 e.symm), List.append_nil]
    by_cases e2 : v = fk
    · subst e2; rw [up_self, if_pos rfl]
    · rw [up_ne _ _ e2, if_neg (fun e : fk = v => e2 e.symm), List.append_nil]

/-- block g holds the rows u, each in a block of its own -/
structure Nst (w : World) (base g N : Nat) (u : Nat → Value) (st : Nat → List Nat) : Prop where
  blk : Bk w g 33 N u
  row : ∀ i, i < N → Qs w base (u i) (st i).length (fun k => (((st i).getD k 0 : Nat) : Int))
  dis : ∀ i j, i < N → j < N → i ≠ j → ∀ b, (u i).ownBlock = some b → (u j).ownBlock ≠ some b
theorem Nst.ext {w w' : World} {base g N : Nat} {u : Nat → Value} {st : Nat → List Nat} (h : Nst w base g N u st) (e : Ext w w') : Nst w' base g N u st :=
  ⟨h.blk.ext e, fun i hi => (h.row i hi).ext e, h.dis⟩
/-- one more in row i -/
theorem Nst.more {w w' : World} {base g N i z : Nat} {u : Nat → Value} {st : Nat → List Nat} {v' : Value} (h : Nst w base g N u st) (hi : i < N) (hg : g < base) (hq : Qs w' base v' ((st i).length + 1) (up (fun k => (((st i).getD k 0 : Nat) : Int)) (st i).length (z : Int))) (hgr : Grew w w' (u i) v') :
    Nst (w'.setCell ⟨g, i, none⟩ v') base g N (up u i v') (up st i (st i ++ [z])) := by
  have hl : g < w.heap.size := h.blk.lt
  have hgi : (u i).ownBlock ≠ some g := fun e => by have := ((h.row i hi).1 g e).1; omega
  have hb := hgr.bk h.blk hgi
  have hg' : v'.ownBlock ≠ some g := hgr.apart hl hgi
  have hfar : ∀ b, b ≠ g → (w'.setCell ⟨g, i, none⟩ v').heap[b]? = w'.heap[b]? := fun b hb => Below.heap_setCell w' ⟨g, i, none⟩ v' b hb
  refine ⟨Bk.set_ hb i v', fun j hj => ?_, fun a b ha hb' hab c hc => ?_⟩
  · by_cases e : j = i
    · subst e
      rw [up_self, up_self, List.length_append]
      refine Qs.congr (hq.block (by simp [World.setCell]) fun b hb2 => hfar b (fun e => hg' (by rw [hb2, e]))) fun k hk => ?_
      by_cases e : k = (st j).length
      · subst e; rw [up_self]; simp
      · rw [up_ne _ _ e]; simp only [List.getD_eq_getElem?_getD]; rw [List.getElem?_append_left (by simp at hk; omega)]
    · rw [up_ne _ _ e, up_ne _ _ e]
      refine (h.row j hj).block (by have := hgr.by_.size; simpa [World.setCell] using this) fun b hb2 => ?_
      obtain ⟨h1, hlt⟩ := (h.row j hj).1 b hb2
      rw [hfar b (by omega)]
      exact hgr.by_.block b hlt (fun e2 => h.dis j i hj hi e b hb2 e2.symm)
  · by_cases e1 : a = i
    · subst e1
      rw [up_self] at hc
      rw [up_ne _ _ (fun e => hab e.symm)]
      rcases hgr.own with e2 | ⟨b2, e2, h2⟩
      · rw [e2] at hc; exact h.dis a b ha hb' hab c hc
      · rw [e2] at hc; injection hc with hc
        intro hb3
        have := (h.row b hb').1 c hb3
        omega
    · rw [up_ne _ _ e1] at hc
      by_cases e2 : b = i
      · subst e2
        rw [up_self]
        rcases hgr.own with e3 | ⟨b2, e3, h2⟩
        · rw [e3]; exact h.dis a b ha hb' hab c hc
        · rw [e3]; intro hb3; injection hb3 with hb3
          have := (h.row a ha).1 c hc
          omega
      · rw [up_ne _ _ e2]; exact h.dis a b ha hb' hab c hc
end Go.Proofs.Ytilcbbdmenknfaa
