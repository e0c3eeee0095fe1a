/- Walks: the law's plan (a copy of what comes in, cut). -/
import Derived.Test.YtlachbodibajlaaDoorM20
import Derived.Maps.AppendAt
import Derived.Lib.MinMax
import Derived.Lib.SliceRun
namespace Go.Proofs.YtlachbodibajlaaDoor
open Go.RowKit Go.Shelf

/-- the list of the first k numbers -/
def nl (k : Nat) (x : Nat → Int) : List Value := (List.range k).map fun j => Value.int .i64 (x j)
theorem nl_get {k j : Nat} (x : Nat → Int) (h : j < k) : (nl k x)[j]? = some (.int .i64 (x j)) := by unfold nl; rw [List.getElem?_map, List.getElem?_range h]; rfl
theorem nl_len (k : Nat) (x : Nat → Int) : (nl k x).length = k := by simp [nl]
theorem shape_own {w : World} {base : Nat} {e : TypeId} {size n : Nat} {v : Value} {xs : List Value} (h : w.ownsRow base e size v n xs) : ∃ A c, v = .slice A n c := by
  obtain ⟨-, ⟨rfl, rfl⟩ | ⟨g, cap, cur, rfl, -⟩⟩ := h
  · exact ⟨_, _, rfl⟩
  · exact ⟨_, _, rfl⟩
theorem own_mono {w : World} {base b' : Nat} {e : TypeId} {size n : Nat} {v : Value} {xs : List Value} (h : w.ownsRow base e size v n xs) (hb : b' ≤ base) : w.ownsRow b' e size v n xs :=
  ⟨h.1, h.2.imp id fun ⟨g, cap, cur, e, hg, rest⟩ => ⟨g, cap, cur, e, Nat.le_trans hb hg, rest⟩⟩
theorem own_keep {w w' : World} {base : Nat} {e : TypeId} {size n : Nat} {v : Value} {xs : List Value} (h : w.ownsRow base e size v n xs) (hk : ∀ g, v.ownBlock = some g → w'.heap[g]? = w.heap[g]?) : w'.ownsRow base e size v n xs := by
  obtain ⟨h1, h2 | ⟨g, cap, cur, rfl, hg, hh, rest⟩⟩ := h
  · exact ⟨h1, .inl h2⟩
  · exact ⟨h1, .inr ⟨g, cap, cur, rfl, hg, (hk g rfl).trans hh, rest⟩⟩
theorem own_type {w : World} {base : Nat} {e : TypeId} {size n : Nat} {v : Value} {xs : List Value} (h : w.ownsRow base e size v n xs) {g : Nat} (hv : v.ownBlock = some g) : ∃ cur, w.heap[g]? = some (.cells cur e (0, 0)) ∧ base ≤ g := by
  obtain ⟨-, ⟨rfl, -⟩ | ⟨g', cap, cur, rfl, hg, hh, -⟩⟩ := h
  · simp [Value.ownBlock] at hv
  · simp [Value.ownBlock] at hv
    subst hv
    exact ⟨cur, hh, hg⟩
theorem own_apart {w : World} {base base' : Nat} {e e' : TypeId} {size size' n n' : Nat} {v v' : Value} {xs xs' : List Value} (h : w.ownsRow base e size v n xs) (h' : w.ownsRow base' e' size' v' n' xs') (he : e ≠ e') {g : Nat} (hv : v.ownBlock = some g) : v'.ownBlock ≠ some g := fun hv' => by
  obtain ⟨c1, h1, -⟩ := own_type h hv
  obtain ⟨c2, h2, -⟩ := own_type h' hv'
  rw [h1] at h2
  injection h2 with h2
  injection h2 with _ h2 _
  exact he h2
theorem own_far {w : World} {base : Nat} {e e' : TypeId} {size n b : Nat} {v : Value} {xs : List Value} {cs : Array Value} (h : w.ownsRow base e size v n xs) (hb : w.heap[b]? = some (.cells cs e' (0, 0))) (he : e ≠ e') : v.ownBlock ≠ some b := fun hv => by
  obtain ⟨c1, h1, -⟩ := own_type h hv
  rw [h1] at hb
  injection hb with h2
  injection h2 with _ h2 _
  exact he h2
theorem own_il {w : World} {base n : Nat} {v : Value} {x : Nat → Int} (h : w.ownsRow base 3 1 v n (nl n x)) : Il w v n x := by
  obtain ⟨h1, ⟨rfl, h2⟩ | ⟨g, cap, cur, rfl, hb, hh, h5, h6, h7, h8⟩⟩ := h
  · subst h2
    exact ⟨none, 0, rfl, Nat.le_refl _, by omega, fun h => by omega⟩
  · refine ⟨_, cap, rfl, by omega, by simp only [maxLen] at *; omega, fun hp => ⟨g, 0, rfl, (Array.getElem?_eq_some_iff.1 hh).1, fun j hj => ?_⟩⟩
    rw [Nat.zero_add, cell_of_row w g j cur 3 (0, 0) hh]
    have h11 := nl_get x hj
    rw [← h8, List.getElem?_take, if_pos (by omega)] at h11
    simpa using h11
/-- what the j-th of a row is -/
theorem own_get {w : World} {base : Nat} {e : TypeId} {size n : Nat} {A : Option Addr} {c : Nat} {xs : List Value} (h : w.ownsRow base e size (.slice A n c) n xs) (hn : 0 < n) : ∃ g, A = some ⟨g, 0, none⟩ ∧ g < w.heap.size ∧ ∀ j u, xs[j]? = some u → w.cell? ⟨g, j, none⟩ = some u := by
  obtain ⟨h1, ⟨h0, h2⟩ | ⟨g, cap, cur, e1, hb, hh, h5, h6, h7, h8⟩⟩ := h
  · omega
  · injection e1 with e1 _ _
    subst e1
    refine ⟨g, rfl, (Array.getElem?_eq_some_iff.1 hh).1, fun j u hu => ?_⟩
    have hj : j < n * size := by have := (List.getElem?_eq_some_iff.1 hu).1; omega
    rw [cell_of_row w g j cur e (0, 0) hh]
    rw [← h8, List.getElem?_take, if_pos hj] at hu
    simpa using hu
theorem own_cap {w : World} {base : Nat} {e : TypeId} {size n : Nat} {A : Option Addr} {c : Nat} {xs : List Value} (h : w.ownsRow base e size (.slice A n c) n xs) : n ≤ c ∧ c ≤ 9223372036854775807 := by
  obtain ⟨h1, ⟨h0, h2⟩ | ⟨g, cap, cur, e1, hb, hh, h5, h6, h7, h8⟩⟩ := h
  · injection h0 with _ _ h3; omega
  · injection e1 with _ _ h3
    simp only [maxLen] at *; omega

set_option maxHeartbeats 2000000 in
set_option maxRecDepth 100000 in
theorem cloneI_any (n : Nat) (x : Nat → Int) (V : Value) (W : World) (hV : Il W V n x) (hn : n ≤ 1000000) :
    Calls Tryd.prog 72 #[V] W fun e W' => ∃ U, e = .returned U ∧ W'.ownsRow W.heap.size 3 1 U n (nl n x) ∧ Ext W W' := by
  have HV := Lib.hid hV
  obtain ⟨A, c, rfl, hc, hd, hex⟩ := hV
  obtain ⟨i0, hi, hz0, hz1, hz2⟩ := info_parts info3
  have q33 : ∀ (w : World) (a : Option Addr) (n c n' c' : Nat), (binOp .eql 32 (.slice a n c) (.slice none n' c')).run Tryd.prog w = .ok (.bool a.isNone) w := fun w a n c n' c' => Lib.run_eql_slice_nil w _ _ a n c n' c' Tryd.underlying32
  cases A with
  | none =>
    obtain rfl : n = 0 := by
      rcases Nat.eq_zero_or_pos n with h | h
      · exact h
      · obtain ⟨b, o, e, -⟩ := hex h; cases e
    clear hex
    go_enter Tryd.func72, Tryd.ntmps72
    go_wp2
    go_ret
    exact ⟨_, rfl, World.ownsRow_nil _ _ _ _, Ext.refl _⟩
  | some ad =>
    have hcell : ∀ j u, (nl n x)[j]? = some u → W.cell? (ad.add j) = some u := by
      intro j u hu
      have hj : j < n := by have := (List.getElem?_eq_some_iff.1 hu).1; rw [nl_len] at this; exact this
      obtain ⟨b, o, e, -, hcs⟩ := hex (by omega)
      cases e
      rw [nl_get x hj] at hu
      cases hu
      have : (⟨b, o, none⟩ : Addr).add j = ⟨b, o + j, none⟩ := by unfold Addr.add; split <;> simp_all
      rw [this]
      exact hcs j hj
    have HC := Lib.hid hcell
    clear hex hcell
    go_enter Tryd.func72, Tryd.ntmps72
    go_wp2_with (at_builtin; refine wpList_append_own _ rfl _ _ 32 rfl W.heap.size 3 i0 (.int .i64 0) 1 8 Tryd.underlying32 hi hz0 hz1 hz2 rfl (by decide) _ 0 [] rfl (World.ownsRow_lit W #[] 0 (Nat.le_refl _) (Nat.zero_le _) rfl) ad n c (nl n x) rfl ?qc1 ?qc2 ?qc3 ?qc4 ?qc5 ?qc6 ?_)
    case qc1 => rw [nl_len]; omega
    case qc2 =>
      intro j u hj
      exact Lib.cell?_alloc_some _ (HC.out j u hj)
    case qc3 => intro u hu; unfold nl at hu; obtain ⟨y, _, rfl⟩ := List.mem_map.1 hu; rfl
    case qc4 => unfold maxLen; omega
    case qc5 => omega
    case qc6 => simp
    intro v' w1 hown hgrow hnil
    clear hnil
    have hI : w1.ownsRow W.heap.size 3 1 v' n (nl n x) := by simpa using hown
    have hE : Ext W w1 := ⟨hgrow.os, hgrow.tape, hgrow.output, by have h1 := hgrow.size; simp at h1; omega, fun k hk => (hgrow.block k (by simp; omega) (fun e => by simp [Value.ownBlock] at e; omega)).trans (Below.heap_alloc _ _ k hk)⟩
    have HR := Lib.hid (And.intro hI hE)
    clear hI hE hown hgrow
    go_wp2
    go_ret
    exact ⟨v', rfl, HR.out.1, HR.out.2⟩

set_option maxRecDepth 100000 in
theorem info60 : (Tryd.prog.info? 60).map (fun i => (i.zero, i.size, i.bytes)) = some (some (.agg #[.int .i64 0, .int .i64 0]), 2, 16) := by kernel_rfl
/-- pairs as a list of values -/
def prl (a b : Nat → Int) (k : Nat) : List Value := (List.range k).flatMap fun i => [.int .i64 (a i), .int .i64 (b i)]
theorem prl_len (a b : Nat → Int) (k : Nat) : (prl a b k).length = k * 2 := by
  induction k with
  | zero => rfl
  | succ k ih => unfold prl at ih ⊢; rw [List.range_succ, List.flatMap_append, List.length_append, ih]; simp; omega
theorem prl_succ (a b : Nat → Int) (k : Nat) : prl a b (k + 1) = prl a b k ++ [.int .i64 (a k), .int .i64 (b k)] := by unfold prl; rw [List.range_succ, List.flatMap_append]; simp
theorem prl_get (a b : Nat → Int) : ∀ (k : Nat) {i : Nat}, i < k → (prl a b k)[i * 2]? = some (.int .i64 (a i)) ∧ (prl a b k)[i * 2 + 1]? = some (.int .i64 (b i))
  | 0, i, h => absurd h (Nat.not_lt_zero _)
  | k + 1, i, h => by
    have hl := prl_len a b k
    rw [prl_succ]
    rcases Nat.lt_succ_iff_lt_or_eq.1 h with h | rfl
    · rw [List.getElem?_append_left (by omega), List.getElem?_append_left (by omega)]
      exact prl_get a b k h
    · rw [List.getElem?_append_right (by omega), List.getElem?_append_right (by omega), hl]
      simp
/-- rows of the call's own -/
def Rws (w : World) (base : Nat) (V : Value) (j : Nat) (us : List Value) (ln : Nat → Nat) (y : Nat → Nat → Int) : Prop :=
  w.ownsRow base 32 1 V j us ∧ ∀ i, i < j → ∃ u, us[i]? = some u ∧ w.ownsRow base 3 1 u (min (ln i) 12) (nl (min (ln i) 12) (y i))
theorem Rws.keep {w w' : World} {base : Nat} {V : Value} {j : Nat} {us : List Value} {ln : Nat → Nat} {y : Nat → Nat → Int} (h : Rws w base V j us ln y) (hk : ∀ (g : Nat) (cs : Array Value) (e : TypeId), w.heap[g]? = some (Obj.cells cs e (0, 0)) → e = 3 ∨ e = 32 → w'.heap[g]? = w.heap[g]?) : Rws w' base V j us ln y :=
  ⟨own_keep h.1 fun g hg => by obtain ⟨cur, hc, -⟩ := own_type h.1 hg; exact hk g _ _ hc (.inr rfl), fun i hi => by
    obtain ⟨u, hu, ho⟩ := h.2 i hi
    exact ⟨u, hu, own_keep ho fun g hg => by obtain ⟨cur, hc, -⟩ := own_type ho hg; exact hk g _ _ hc (.inl rfl)⟩⟩
theorem ty_ne {w : World} {g b : Nat} {cs ds : Array Value} {e e' : TypeId} (h : w.heap[g]? = some (.cells cs e (0, 0))) (h' : w.heap[b]? = some (.cells ds e' (0, 0))) (he : e ≠ e') : g ≠ b := fun hg => by
  subst hg
  rw [h] at h'
  injection h' with h2
  injection h2 with _ h2 _
  exact he h2
theorem ext_ty {w w' : World} (e : Ext w w') {g : Nat} {o : Obj} (h : w.heap[g]? = some o) : w'.heap[g]? = some o := (e.block g (Array.getElem?_eq_some_iff.1 h).1).trans h
theorem Rws.ext {w w' : World} {base : Nat} {V : Value} {j : Nat} {us : List Value} {ln : Nat → Nat} {y : Nat → Nat → Int} (h : Rws w base V j us ln y) (e : Ext w w') : Rws w' base V j us ln y := h.keep fun _ _ _ hg _ => (ext_ty e hg).trans hg.symm

theorem Rws.mx {w : World} {base : Nat} {A : Option Addr} {c j : Nat} {us : List Value} {ln : Nat → Nat} {y : Nat → Nat → Int} (h : Rws w base (.slice A j c) j us ln y) : Mx w (.slice A j c) j (fun i => min (ln i) 12) y := by
  refine ⟨A, c, rfl, (own_cap h.1).1, (own_cap h.1).2, fun hj => ?_⟩
  obtain ⟨g, rfl, hg, hc⟩ := own_get h.1 hj
  refine ⟨g, 0, rfl, hg, fun i hi => ?_⟩
  obtain ⟨u, hu, ho⟩ := h.2 i hi
  exact ⟨u, by rw [Nat.zero_add]; exact hc i u hu, own_il ho⟩
theorem own_px {w : World} {base : Nat} {A : Option Addr} {c t : Nat} {a b : Nat → Int} (h : w.ownsRow base 60 2 (.slice A t c) t (prl a b t)) : Px w (.slice A t c) t a b := by
  refine ⟨A, c, rfl, (own_cap h).1, (own_cap h).2, fun ht => ?_⟩
  obtain ⟨g, rfl, hg, hc⟩ := own_get h ht
  refine ⟨g, 0, rfl, hg, fun i hi => ?_⟩
  obtain ⟨h1, h2⟩ := prl_get a b t hi
  exact ⟨by rw [Nat.zero_add]; exact hc _ _ h1, by rw [Nat.zero_add]; exact hc _ _ h2⟩

set_option maxHeartbeats 8000000 in
set_option maxRecDepth 100000 in
theorem of_any (S C B : Value) (n mc m : Nat) (st : Nat → Int) (ln : Nat → Nat) (y : Nat → Nat → Int) (a b : Nat → Int) (W : World) (h : Pv W S C B n mc m st ln y a b) :
    Calls Tryd.prog 31 #[.agg #[S, C, B]] W fun e W' => ∃ S' C' B', e = .returned (.agg #[S', C', B']) ∧ Pv W' S' C' B' (min n 12) (min mc 12) (min m 42) st (fun i => min (ln i) 12) y a b ∧ Ext W W' := by
  have HV := Lib.hid h
  obtain ⟨A, k, rfl, hk1, hk2, hex⟩ := id h.vs
  obtain ⟨A2, k2, rfl, hk3, hk4, hrow⟩ := id h.vc
  obtain ⟨A3, k3, rfl, hk5, hk6, hpr⟩ := id h.vb
  have HROW := Lib.hid hrow; have HPR := Lib.hid hpr; have HLN := Lib.hid h.bl
  have hbc := h.bc; have hbb := h.bb; have hbn := h.bn
  obtain ⟨n1, hn1⟩ : ∃ t, t = min n 12 := ⟨_, rfl⟩
  obtain ⟨mc1, hmc1⟩ : ∃ t, t = min mc 12 := ⟨_, rfl⟩
  obtain ⟨m1, hm1⟩ : ∃ t, t = min m 42 := ⟨_, rfl⟩
  rw [← hn1, ← hmc1, ← hm1]
  have hmi : min (n : Int) 12 = (n1 : Int) := by omega
  have hn1k : n1 ≤ k := by omega
  have hn12 : n1 ≤ 12 := by omega
  have hcut : Il W (.slice A n1 k) n1 st := ⟨A, k, rfl, hn1k, hk2, fun hp => by
    obtain ⟨b, o, e, hb, hcs⟩ := hex (by omega)
    exact ⟨b, o, e, hb, fun j hj => hcs j (by omega)⟩⟩
  have HCUT := Lib.hid hcut
  have HMM := Lib.hid (And.intro hmc1 hm1)
  obtain ⟨i0, hi, hz0, hz1, hz2⟩ := info_parts info32
  obtain ⟨j0, hj0, hy0, hy1, hy2⟩ := info_parts info60
  have HI := Lib.hid (And.intro hi (And.intro hz0 (And.intro hz1 hz2)))
  have HJ := Lib.hid (And.intro hj0 (And.intro hy0 (And.intro hy1 hy2)))
  have e1 : Ext W ((W.alloc (.cells #[.slice A n k, .slice A2 mc k2, .slice A3 m k3] 48)).alloc (.cells #[.slice none 0 0, .slice none 0 0, .slice none 0 0] 50)) := al2 W (.cells #[.slice A n k, .slice A2 mc k2, .slice A3 m k3] 48) (.cells #[.slice none 0 0, .slice none 0 0, .slice none 0 0] 50)
  have hb1 : ((W.alloc (.cells #[.slice A n k, .slice A2 mc k2, .slice A3 m k3] 48)).alloc (.cells #[.slice none 0 0, .slice none 0 0, .slice none 0 0] 50)).heap[W.heap.size]? = some (.cells #[.slice A n k, .slice A2 mc k2, .slice A3 m k3] 48 (0, 0)) := (Below.heap_alloc _ _ _ (by simp)).trans (heap_alloc_new W _)
  have hb2 := heap_alloc_new (W.alloc (.cells #[.slice A n k, .slice A2 mc k2, .slice A3 m k3] 48)) (.cells #[.slice none 0 0, .slice none 0 0, .slice none 0 0] 50)
  simp only [World.size_alloc] at hb2
  have hz : ((W.alloc (.cells #[.slice A n k, .slice A2 mc k2, .slice A3 m k3] 48)).alloc (.cells #[.slice none 0 0, .slice none 0 0, .slice none 0 0] 50)).heap.size = W.heap.size + 1 + 1 := by simp
  clear h hex hrow hpr hcut hn1 hmc1 hm1 hi hz0 hz1 hz2 hj0 hy0 hy1 hy2
  go_enter Tryd.func31, Tryd.ntmps31
  go_upto_region 1 with fail
  obtain ⟨s, hs⟩ : ∃ s, s = W.heap.size := ⟨_, rfl⟩
  rw [← hs] at hb1 hb2 hz ⊢
  have HS := Lib.hid hs
  generalize (W.alloc (.cells #[.slice A n k, .slice A2 mc k2, .slice A3 m k3] 48)).alloc (.cells #[.slice none 0 0, .slice none 0 0, .slice none 0 0] 50) = W1 at *
  clear hs
  have E1 := Lib.hid e1
  clear e1
  have HB := Lib.hid (And.intro hb1 (And.intro hb2 hz))
  obtain ⟨c0, c1, c2, z0⟩ := three_c hb1
  obtain ⟨s0, hs0⟩ : ∃ t, t = W1.heap.size := ⟨_, rfl⟩
  have HS0 : Hid (s0 = W1.heap.size ∧ s + 1 < s0) := Lib.hid ⟨hs0, by omega⟩
  clear hb1 hb2 hz hs0
  go_wp2_with fail
  refine (cloneI_any n1 st _ _ (HCUT.out.ext E1.out) (by omega)).mono ?_
  rintro e w2 ⟨U, rfl, hU, hx⟩
  obtain ⟨UA, uc, rfl⟩ := shape_own hU
  rw [← HS0.out.1] at hU
  have hb3 := heap_alloc_new w2 (.cells #[.slice UA n1 uc, .slice none 0 0, .slice none 0 0] 50)
  have hx3 : Ext w2 (w2.alloc (.cells #[.slice UA n1 uc, .slice none 0 0, .slice none 0 0] 50)) := al1 w2 _
  have hsz2 := hx.size
  go_upto_region 2 with fail
  obtain ⟨b3, hb39⟩ : ∃ t, t = w2.heap.size := ⟨_, rfl⟩
  rw [← hb39] at hb3 ⊢
  have HB3 : Hid (s0 ≤ b3) := Lib.hid (by rw [HS0.out.1, hb39]; exact hsz2)
  generalize w2.alloc (.cells #[.slice UA n1 uc, .slice none 0 0, .slice none 0 0] 50) = w3 at *
  have hU3 := World.ownsRow.ext hU hx3
  have hin0 := Lib.hid (And.intro hb3 (And.intro hU3 (hx.trans hx3)))
  replace c0 := (hx.trans hx3).at z0 c0
  replace c1 := (hx.trans hx3).at z0 c1
  replace c2 := (hx.trans hx3).at z0 c2
  replace z0 := Nat.lt_of_lt_of_le z0 (hx.trans hx3).size
  clear hU hx hb3 hx3 hsz2 hb39 hU3
  go_wp2_with fail
  go_loopw [20] (fun i wr => ∃ (j : Nat) (VA : Option Addr) (vc : Nat) (us : List Value), i = .int .i64 j ∧ j ≤ mc ∧ j ≤ 12 ∧ Hid (wr.heap[b3]? = some (.cells #[.slice UA n1 uc, .slice VA j vc, .slice none 0 0] 50 (0, 0)) ∧ Rws wr s0 (.slice VA j vc) j us ln y ∧ wr.ownsRow s0 3 1 (.slice UA n1 uc) n1 (nl n1 st) ∧ Ext W1 wr)) (fun i _ => mc - (intOf i).toNat)
  case atStart => exact ⟨0, none, 0, [], rfl, Nat.zero_le _, Nat.zero_le _, Lib.hid ⟨hin0.out.1, ⟨World.ownsRow_nil _ _ _ _, fun i hi => absurd hi (Nat.not_lt_zero _)⟩, hin0.out.2.1, hin0.out.2.2⟩⟩
  case round =>
    clear hin0 c0 c1 c2 z0
    obtain ⟨j, VA, vc, us, rfl, hj, hj12, hin⟩ := hrel
    obtain ⟨c0, c1, c2, z0⟩ := three_c HB.out.1
    replace c0 := hin.out.2.2.2.at z0 c0
    replace c1 := hin.out.2.2.2.at z0 c1
    replace c2 := hin.out.2.2.2.at z0 c2
    replace z0 := Nat.lt_of_lt_of_le z0 hin.out.2.2.2.size
    by_cases hgo : j < mc ∧ j < 12
    · obtain ⟨hlt, hlt12⟩ := hgo
      obtain ⟨rb, ro, rfl, zb, hrr⟩ := HROW.out (by omega)
      obtain ⟨R, hR, hRl⟩ := hrr j hlt
      have HRL := Lib.hid hRl
      obtain ⟨RA, rc, rfl, hr1, hr2, hrx⟩ := hRl
      replace hR := (E1.out.trans hin.out.2.2.2).at zb hR
      replace zb := Nat.lt_of_lt_of_le zb (E1.out.trans hin.out.2.2.2).size
      obtain ⟨ra, hra⟩ : ∃ t, t = ln j := ⟨_, rfl⟩
      rw [← hra] at hR hr1 hrx
      obtain ⟨a1, ha1⟩ : ∃ t, t = min ra 12 := ⟨_, rfl⟩
      have hmi2 : min (ra : Int) 12 = (a1 : Int) := by omega
      have ha1c : a1 ≤ rc := by omega
      have ha12 : a1 ≤ 12 := by omega
      have hcut2 : Il W (.slice RA a1 rc) a1 (y j) := ⟨RA, rc, rfl, ha1c, hr2, fun hp => by
        obtain ⟨b, o, e, hb, hcs⟩ := hrx (by omega)
        exact ⟨b, o, e, hb, fun t ht => hcs t (by omega)⟩⟩
      have HC2 := Lib.hid hcut2
      have HA1 : Hid (a1 = min (ln j) 12) := Lib.hid (by rw [ha1, hra])
      have HMI2 := Lib.hid hmi2
      have hj11 : ¬ (11 : Int) < (j : Int) := by omega
      have hra9 : ra ≤ 9223372036854775807 := by omega
      obtain ⟨d0, d1, d2, dz⟩ := three_c hin.out.1
      clear hrr hrx hra ha1 hcut2 HRL hmi2
      go_upto_region 6 with fail
      refine wp_region_noPanic ?_
      refine wp_split (S := fun X => Ext wr X) 9 (by kernel_rfl) (by kernel_rfl) (Ext.drw (Ext.refl _)) ?_
      simp only [List.take_succ_cons, List.take_zero, List.drop_succ_cons, List.drop_zero]
      refine take_at 0 (some 27) (.pointer (some ⟨b3, 1, none⟩)) rfl rfl (by kernel_rfl) (by kernel_rfl) (by kernel_rfl) (fun _ _ _ h => h) (Or.inl ⟨by rfl, fun w' hSw => ?_⟩) (Ext.drw (Ext.refl _)) ?_
      · skip
        try clear hSw
        go_simp
        all_goals (with_reducible rfl)
      try simp only [Act.put, List.setIfInBounds_toArray, List.set_cons_zero, List.set_cons_succ]
      refine take_at 1 (some 28) (.slice VA j vc) rfl rfl (by kernel_rfl) (by kernel_rfl) (by kernel_rfl) (fun _ _ _ h => h) (Or.inl ⟨by rfl, fun w' hSw => ?_⟩) (Ext.drw (Ext.refl _)) ?_
      · have m0 := keepAt hSw dz d0
        have m1 := keepAt hSw dz d1
        have m2 := keepAt hSw dz d2
        try clear hSw
        go_simp
        all_goals (with_reducible rfl)
      try simp only [Act.put, List.setIfInBounds_toArray, List.set_cons_zero, List.set_cons_succ]
      refine take_at 2 (some 29) (.slice RA ra rc) rfl rfl (by kernel_rfl) (by kernel_rfl) (by kernel_rfl) (fun _ _ _ h => h) (Or.inl ⟨by rfl, fun w' hSw => ?_⟩) (Ext.drw (Ext.refl _)) ?_
      · skip
        try clear hSw
        go_simp
        all_goals (with_reducible rfl)
      try simp only [Act.put, List.setIfInBounds_toArray, List.set_cons_zero, List.set_cons_succ]
      refine take_at 3 (some 30) (.slice RA ra rc) rfl rfl (by kernel_rfl) (by kernel_rfl) (by kernel_rfl) (fun _ _ _ h => h) (Or.inl ⟨by rfl, fun w' hSw => ?_⟩) (Ext.drw (Ext.refl _)) ?_
      · skip
        try clear hSw
        go_simp
        all_goals (with_reducible rfl)
      try simp only [Act.put, List.setIfInBounds_toArray, List.set_cons_zero, List.set_cons_succ]
      refine take_at 4 (some 31) (.int .i64 (ra : Nat)) rfl rfl (by kernel_rfl) (by kernel_rfl) (by kernel_rfl) (fun _ _ _ h => h) (Or.inl ⟨by rfl, fun w' hSw => ?_⟩) (Ext.drw (Ext.refl _)) ?_
      · skip
        try clear hSw
        go_simp
        all_goals (with_reducible rfl)
      try simp only [Act.put, List.setIfInBounds_toArray, List.set_cons_zero, List.set_cons_succ]
      refine take_at 5 (some 32) (.int .i64 (a1 : Nat)) rfl rfl (by kernel_rfl) (by kernel_rfl) (by kernel_rfl) (fun _ _ _ h => h) (Or.inl ⟨by rfl, fun w' hSw => ?_⟩) (Ext.drw (Ext.refl _)) ?_
      · have y := HMI2.out
        try clear hSw
        go_simp
        all_goals (with_reducible rfl)
      try simp only [Act.put, List.setIfInBounds_toArray, List.set_cons_zero, List.set_cons_succ]
      refine take_at 6 (some 33) (.slice RA a1 rc) rfl rfl (by kernel_rfl) (by kernel_rfl) (by kernel_rfl) (fun _ _ _ h => h) (Or.inl ⟨by rfl, fun w' hSw => ?_⟩) (Ext.drw (Ext.refl _)) ?_
      · skip
        try clear hSw
        go_simp
        all_goals (with_reducible rfl)
      try simp only [Act.put, List.setIfInBounds_toArray, List.set_cons_zero, List.set_cons_succ]
      refine wpAnyH_ready (rs := [7]) (by kernel_rfl) (by simp) ?_
      refine AllReadyH.cons rfl (fun K hK => ?_) AllReadyH.nil
      go_simp
      refine (cloneI_any a1 (y j) _ _ (HC2.out.ext (E1.out.trans (hin.out.2.2.2.trans (Ext.drw (Ext.refl _))))) (by omega)).mono ?_
      rintro e v7 ⟨u, rfl, hu, hb7⟩
      have e7 : Ext wr v7 := (Ext.drw (Ext.refl _)).trans hb7
      try go_wp2_with fail
      refine hK.out _ _ e7 (fun _ => ?_)
      clear hK K
      try simp only [Act.put, List.setIfInBounds_toArray, List.set_cons_zero, List.set_cons_succ]
      have HU7 := Lib.hid hu
      obtain ⟨ua, uuc, rfl⟩ := shape_own hu
      clear hu
      refine wpAnyH_ready (rs := [8]) (by kernel_rfl) (by simp) ?_
      refine AllReadyH.cons rfl (fun K hK => ?_) AllReadyH.nil
      go_simp
      refine hK.out _ _ (e7.alc _) (fun _ => ?_)
      clear hK K
      try simp only [Act.put, List.setIfInBounds_toArray, List.set_cons_zero, List.set_cons_succ]
      have e8 := e7.alc (.cells #[.slice ua a1 uuc] 32)
      refine wpAnyH_done (by kernel_rfl) ?_ _
      refine cut_normal ?_
      have hb8 := heap_alloc_new v7 (.cells #[.slice ua a1 uuc] 32)
      obtain ⟨p8, hp8⟩ : ∃ t, t = v7.heap.size := ⟨_, rfl⟩
      rw [← hp8] at hb8 ⊢
      have hU8 := World.ownsRow.ext HU7.out (Ext.alc (Ext.refl _) (.cells #[.slice ua a1 uuc] 32))
      generalize v7.alloc (.cells #[.slice ua a1 uuc] 32) = w8 at *
      have hV8 := hin.out.2.1.ext e8
      have hUV8 := World.ownsRow.ext hin.out.2.2.1 e8
      have h38 := ext_ty e8 hin.out.1
      have hx8 := hin.out.2.2.2.trans e8
      have hu8 : w8.ownsRow s0 3 1 (.slice ua a1 uuc) a1 (nl a1 (y j)) := own_mono hU8 (by have h1 := hin.out.2.2.2.size; have h2 := HS0.out.1; show s0 ≤ wr.drew.heap.size; simp; omega)
      have H8 := Lib.hid (And.intro hV8 (And.intro hUV8 (And.intro h38 (And.intro hx8 hu8))))
      have hs8 : s0 ≤ w8.heap.size := by have := hx8.size; have := HS0.out.1; omega
      have hb8c := (uno hb8).1
      clear hb8 hp8 hU8 hV8 hUV8 h38 hx8 hu8 hb7 e7 e8 d0 d1 d2 dz c0 c1 c2 z0 hR zb
      go_wp2_with (at_builtin; refine wpList_append_own_at _ rfl _ _ 45 rfl s0 32 i0 (.slice none 0 0) 1 24 Tryd.underlying45 HI.out.1 HI.out.2.1 HI.out.2.2.1 HI.out.2.2.2 rfl (by decide) _ j us rfl H8.out.1.1 ⟨p8, 0, none⟩ 1 1 [.slice ua a1 uuc] rfl rfl ?c1 ?c2 ?c3 ?c4 ?c5 ?_)
      case c1 =>
        intro t u ht
        cases t with
        | zero =>
          simp at ht; subst ht
          have e9 : (⟨p8, 0, none⟩ : Addr).add 0 = ⟨p8, 0, none⟩ := by unfold Addr.add; simp
          rw [e9]; exact hb8c
        | succ t => simp at ht
      case c2 => intro u hu; simp at hu; subst hu; rfl
      case c3 => unfold maxLen; omega
      case c4 => omega
      case c5 => exact hs8
      intro v' w9 hown hgrow hnil hob
      clear hnil hob hb8c
      obtain ⟨VB, vcb, rfl⟩ := shape_own hown
      have hk3 : ∀ (g : Nat) (cs : Array Value) (t : TypeId), w8.heap[g]? = some (Obj.cells cs t (0, 0)) → t ≠ 32 → w9.heap[g]? = w8.heap[g]? := fun g cs t hg ht => hgrow.block g (Array.getElem?_eq_some_iff.1 hg).1 (fun e => own_far H8.out.1.1 hg (fun e => ht e.symm) e.symm)
      have h39 := (hk3 b3 _ _ H8.out.2.2.1 (by decide)).trans H8.out.2.2.1
      have hx9 : Ext W1 w9 := ⟨hgrow.os.trans H8.out.2.2.2.1.os, hgrow.tape.trans H8.out.2.2.2.1.tape, hgrow.output.trans H8.out.2.2.2.1.output, Nat.le_trans H8.out.2.2.2.1.size hgrow.size, fun b hb => (hgrow.block b (Nat.lt_of_lt_of_le hb H8.out.2.2.2.1.size) (fun e => by obtain ⟨cur, -, h⟩ := own_type H8.out.1.1 e.symm; have := HS0.out.1; omega)).trans (H8.out.2.2.2.1.block b hb)⟩
      obtain ⟨d0, d1, d2, dz⟩ := three_c h39
      have df : ∀ o, w9.frozen? ⟨b3, o, none⟩ = false := fun o => by simp [World.frozen?, h39]
      have hlus : us.length = j := by have := H8.out.1.1.1; omega
      have h3a : (w9.setCell ⟨b3, 1, none⟩ (.slice VB (j + 1) vcb)).heap[b3]? = some (.cells #[.slice UA n1 uc, .slice VB (j + 1) vcb, .slice none 0 0] 50 (0, 0)) := by simp [World.setCell, Array.getElem?_modify, h39]
      have hk9 : ∀ (g : Nat) (cs : Array Value) (t : TypeId), w9.heap[g]? = some (Obj.cells cs t (0, 0)) → t ≠ 50 → (w9.setCell ⟨b3, 1, none⟩ (.slice VB (j + 1) vcb)).heap[g]? = w9.heap[g]? := fun g cs t hg ht => heap_far (ty_ne hg h39 ht)
      have hka : ∀ (g : Nat) (cs : Array Value), w8.heap[g]? = some (Obj.cells cs 3 (0, 0)) → (w9.setCell ⟨b3, 1, none⟩ (.slice VB (j + 1) vcb)).heap[g]? = w8.heap[g]? := fun g cs hg => by
        have h1 := hk3 g cs 3 hg (by decide)
        exact (hk9 g cs 3 (h1.trans hg) (by decide)).trans h1
      have hRa : Rws (w9.setCell ⟨b3, 1, none⟩ (.slice VB (j + 1) vcb)) s0 (.slice VB (j + 1) vcb) (j + 1) (us ++ [.slice ua a1 uuc]) ln y := by
        refine ⟨own_keep hown fun g hg => by obtain ⟨cur, hc, -⟩ := own_type hown hg; exact hk9 g _ _ hc (by decide), fun i hi => ?_⟩
        by_cases e : i = j
        · subst e
          refine ⟨.slice ua a1 uuc, by rw [List.getElem?_append_right (by omega), hlus]; simp, ?_⟩
          rw [← HA1.out]
          exact own_keep H8.out.2.2.2.2 fun g hg => by obtain ⟨cur, hc, -⟩ := own_type H8.out.2.2.2.2 hg; exact hka g _ hc
        · obtain ⟨u, hu, ho⟩ := H8.out.1.2 i (by omega)
          exact ⟨u, by rw [List.getElem?_append_left (by omega)]; exact hu, own_keep ho fun g hg => by obtain ⟨cur, hc, -⟩ := own_type ho hg; exact hka g _ hc⟩
      have hUa : (w9.setCell ⟨b3, 1, none⟩ (.slice VB (j + 1) vcb)).ownsRow s0 3 1 (.slice UA n1 uc) n1 (nl n1 st) := own_keep H8.out.2.1 fun g hg => by obtain ⟨cur, hc, -⟩ := own_type H8.out.2.1 hg; exact hka g _ hc
      have hxa : Ext W1 (w9.setCell ⟨b3, 1, none⟩ (.slice VB (j + 1) vcb)) := hx9.sc (by have := HS0.out.1; have := HB3.out; omega)
      have HN := Lib.hid (And.intro h3a (And.intro hRa (And.intro hUa hxa)))
      clear hk3 h39 hx9 h3a hk9 hka hRa hUa hxa hown hgrow hlus
      go_wp2_with fail
      refine NoPanic.normal ?_
      go_wp2
      go_roundw
      case rel => exact ⟨j + 1, VB, vcb, us ++ [.slice ua a1 uuc], by go_num, by omega, by omega, HN⟩
      case measure => simp [intOf] <;> omega
    · by_cases hlt : j < mc
      · have hj12e : j = 12 := by omega
        have hj11 : (11 : Int) < (j : Int) := by omega
        obtain ⟨rb, ro, rfl, zb, hrr⟩ := HROW.out (by omega)
        obtain ⟨R, hR, hRl⟩ := hrr j hlt
        replace hR := (E1.out.trans hin.out.2.2.2).at zb hR
        replace zb := Nat.lt_of_lt_of_le zb (E1.out.trans hin.out.2.2.2).size
        have HIN : Hid (wr.heap[b3]? = some (.cells #[.slice UA n1 uc, .slice VA mc1 vc, .slice none 0 0] 50 (0, 0)) ∧ Rws wr s0 (.slice VA mc1 vc) mc1 us ln y ∧ wr.ownsRow s0 3 1 (.slice UA n1 uc) n1 (nl n1 st) ∧ Ext W1 wr) := Lib.hid (by rw [show mc1 = j by have := HMM.out; omega]; exact hin.out)
        clear hrr hRl hin hgo hj12e
        go_wp2_with fail
        go_loopw [7, 42] (fun _ i wz => ∃ (t : Nat) (XA : Option Addr) (xc : Nat), i = .int .i64 t ∧ t ≤ m ∧ t ≤ 42 ∧ Hid (wz.heap[b3]? = some (.cells #[.slice UA n1 uc, .slice VA mc1 vc, .slice XA t xc] 50 (0, 0)) ∧ Rws wz s0 (.slice VA mc1 vc) mc1 us ln y ∧ wz.ownsRow s0 3 1 (.slice UA n1 uc) n1 (nl n1 st) ∧ wz.ownsRow s0 60 2 (.slice XA t xc) t (prl a b t) ∧ Ext W1 wz)) (fun _ i _ => m - (intOf i).toNat)
        case atStart => exact ⟨0, none, 0, rfl, Nat.zero_le _, Nat.zero_le _, Lib.hid ⟨HIN.out.1, HIN.out.2.1, HIN.out.2.2.1, World.ownsRow_nil _ _ _ _, HIN.out.2.2.2⟩⟩
        case round =>
          clear HIN c0 c1 c2 z0
          obtain ⟨t, XA, xc, rfl, ht, ht42, hin⟩ := hrel
          obtain ⟨c0, c1, c2, z0⟩ := three_c HB.out.1
          replace c0 := hin.out.2.2.2.2.at z0 c0
          replace c1 := hin.out.2.2.2.2.at z0 c1
          replace c2 := hin.out.2.2.2.2.at z0 c2
          replace z0 := Nat.lt_of_lt_of_le z0 hin.out.2.2.2.2.size
          by_cases hlt2 : t < m
          · obtain ⟨pg, po, rfl, zg, hcell⟩ := HPR.out (by omega)
            obtain ⟨q1, q2⟩ := hcell t hlt2
            replace q1 := (E1.out.trans hin.out.2.2.2.2).at zg q1
            replace q2 := (E1.out.trans hin.out.2.2.2.2).at zg q2
            have zg2 := Nat.lt_of_lt_of_le zg (E1.out.trans hin.out.2.2.2.2).size
            obtain ⟨p, hp⟩ : ∃ p, p = a t := ⟨_, rfl⟩
            obtain ⟨q, hq⟩ : ∃ q, q = b t := ⟨_, rfl⟩
            rw [← hp] at q1
            rw [← hq] at q2
            have HPQ := Lib.hid (And.intro hp hq)
            clear hcell hp hq zg
            by_cases h42 : t = 42
            · subst h42
              have h41 : (41 : Int) < ((42 : Nat) : Int) := by decide
              go_upto_region 11 with fail
              have e4 : Ext wr (wr.alloc (.cells #[.int .i64 p, .int .i64 q] 60)) := al1 wr _
              generalize wr.alloc (.cells #[.int .i64 p, .int .i64 q] 60) = wz at *
              have hm42 : m1 = 42 := by have := HMM.out; omega
              have HE : Hid (wz.heap[b3]? = some (.cells #[.slice UA n1 uc, .slice VA mc1 vc, .slice XA m1 xc] 50 (0, 0)) ∧ Rws wz s0 (.slice VA mc1 vc) mc1 us ln y ∧ wz.ownsRow s0 3 1 (.slice UA n1 uc) n1 (nl n1 st) ∧ wz.ownsRow s0 60 2 (.slice XA m1 xc) m1 (prl a b m1) ∧ Ext W1 wz) := Lib.hid (by rw [hm42]; exact ⟨ext_ty e4 hin.out.1, hin.out.2.1.ext e4, World.ownsRow.ext hin.out.2.2.1 e4, World.ownsRow.ext hin.out.2.2.2.1 e4, hin.out.2.2.2.2.trans e4⟩)
              clear e4 hin c0 c1 c2 z0 q1 q2 zg2 hm42
              obtain ⟨f0, f1, f2, fz⟩ := three_c HE.out.1
              have gz : s + 1 < W1.heap.size := by have := HB.out.2.2; omega
              have gh := (HE.out.2.2.2.2.block (s + 1) gz).trans HB.out.2.1
              obtain ⟨g0, g1, g2, -⟩ := three_c gh
              have gf : ∀ o, wz.frozen? ⟨s + 1, o, none⟩ = false := fun o => by simp [World.frozen?, gh]
              clear gh
              go_wp2
              refine bodyPost_ret (v := .agg #[.slice UA n1 uc, .slice VA mc1 vc, .slice XA m1 xc]) (by simp [results, Tryd.results31, go_sem, g0, g1, g2]) rfl ?_
              have hse := HS.out
              have hxx := (((E1.out.trans HE.out.2.2.2.2).sc (g := s + 1) (i := 0) (v := .slice UA n1 uc) (by omega)).sc (g := s + 1) (i := 1) (v := .slice VA mc1 vc) (by omega)).sc (g := s + 1) (i := 2) (v := .slice XA m1 xc) (by omega)
              have hkk : ∀ g, s0 ≤ g → (((wz.setCell ⟨s + 1, 0, none⟩ (.slice UA n1 uc)).setCell ⟨s + 1, 1, none⟩ (.slice VA mc1 vc)).setCell ⟨s + 1, 2, none⟩ (.slice XA m1 xc)).heap[g]? = wz.heap[g]? := fun g hg => by
                have hne : g ≠ s + 1 := by have := HS0.out.2; omega
                exact (heap_far hne).trans ((heap_far hne).trans (heap_far hne))
              refine ⟨_, _, _, rfl, ⟨?_, ?_, ?_, by omega, by have := HMM.out; omega, fun i hi => by omega, by have := HMM.out; omega⟩, hxx⟩
              · exact own_il (own_keep HE.out.2.2.1 fun g hg => by obtain ⟨cur, hc, h⟩ := own_type HE.out.2.2.1 hg; exact hkk g h)
              · refine Rws.mx (us := us) (base := s0) ⟨own_keep HE.out.2.1.1 fun g hg => by obtain ⟨cur, hc, h⟩ := own_type HE.out.2.1.1 hg; exact hkk g h, fun i hi => ?_⟩
                obtain ⟨u, hu, ho⟩ := HE.out.2.1.2 i hi
                exact ⟨u, hu, own_keep ho fun g hg => by obtain ⟨cur, hc, h⟩ := own_type ho hg; exact hkk g h⟩
              · exact own_px (own_keep HE.out.2.2.2.1 fun g hg => by obtain ⟨cur, hc, h⟩ := own_type HE.out.2.2.2.1 hg; exact hkk g h)
            · have h41 : ¬ (41 : Int) < (t : Int) := by omega
              go_upto_region 11 with fail
              have e4 : Ext wr (wr.alloc (.cells #[.int .i64 p, .int .i64 q] 60)) := al1 wr _
              have hb4 := heap_alloc_new wr (.cells #[.int .i64 p, .int .i64 q] 60)
              obtain ⟨p4, hp4⟩ : ∃ t, t = wr.heap.size := ⟨_, rfl⟩
              rw [← hp4] at hb4 ⊢
              generalize wr.alloc (.cells #[.int .i64 p, .int .i64 q] 60) = w4 at *
              obtain ⟨d0, d1, dz, -⟩ := two_c hb4
              have H4 : Hid (w4.heap[b3]? = some (.cells #[.slice UA n1 uc, .slice VA mc1 vc, .slice XA t xc] 50 (0, 0)) ∧ Rws w4 s0 (.slice VA mc1 vc) mc1 us ln y ∧ w4.ownsRow s0 3 1 (.slice UA n1 uc) n1 (nl n1 st) ∧ w4.ownsRow s0 60 2 (.slice XA t xc) t (prl a b t) ∧ Ext W1 w4) := Lib.hid ⟨ext_ty e4 hin.out.1, hin.out.2.1.ext e4, World.ownsRow.ext hin.out.2.2.1 e4, World.ownsRow.ext hin.out.2.2.2.1 e4, hin.out.2.2.2.2.trans e4⟩
              obtain ⟨f0, f1, f2, fz⟩ := three_c H4.out.1
              have hs4 : s0 ≤ w4.heap.size := by have := H4.out.2.2.2.2.size; have := HS0.out.1; omega
              have hown4 := World.ownsRow.ext H4.out.2.2.2.1 (Ext.alc (Ext.refl w4) (.cells #[.int .i64 p, .int .i64 q] 60))
              obtain ⟨r0, r1, -, -⟩ := two_c (heap_alloc_new w4 (.cells #[.int .i64 p, .int .i64 q] 60))
              have HR01 := Lib.hid (And.intro r0 r1)
              clear e4 hin hb4 hp4 c0 c1 c2 z0 q1 q2 zg2 r0 r1
              go_wp2_with (at_builtin; refine wpList_append_own_at _ rfl _ _ 46 rfl s0 60 j0 (.agg #[.int .i64 0, .int .i64 0]) 2 16 Tryd.underlying46 HJ.out.1 HJ.out.2.1 HJ.out.2.2.1 HJ.out.2.2.2 rfl (by decide) _ t (prl a b t) rfl hown4 ⟨w4.heap.size, 0, none⟩ 1 1 [.int .i64 p, .int .i64 q] rfl rfl ?c1 ?c2 ?c3 ?c4 ?c5 ?_)
              case c2 => exact ⟨rfl, rfl⟩
              case c3 => unfold maxLen; omega
              case c4 => omega
              case c5 => first | omega | (simp; omega)
              intro v' w5 hown hgrow hnil hob
              clear hnil hob
              obtain ⟨XB, xcb, rfl⟩ := shape_own hown
              have hk6 : ∀ (g : Nat) (cs : Array Value) (e : TypeId), w4.heap[g]? = some (Obj.cells cs e (0, 0)) → e ≠ 60 → w5.heap[g]? = w4.heap[g]? := fun g cs e hg he => (hgrow.block g (by have := (Array.getElem?_eq_some_iff.1 hg).1; simp; omega) (fun e' => own_far H4.out.2.2.2.1 hg (fun e => he e.symm) e'.symm)).trans (Below.heap_alloc _ _ _ (Array.getElem?_eq_some_iff.1 hg).1)
              have h35 := (hk6 b3 _ _ H4.out.1 (by decide)).trans H4.out.1
              have hx5 : Ext W1 w5 := ⟨hgrow.os.trans H4.out.2.2.2.2.os, hgrow.tape.trans H4.out.2.2.2.2.tape, hgrow.output.trans H4.out.2.2.2.2.output, by have h1 := hgrow.size; have h2 := H4.out.2.2.2.2.size; simp at h1; omega, fun b hb => (hgrow.block b (by have h2 := H4.out.2.2.2.2.size; simp; omega) (fun e => by obtain ⟨cur, -, h⟩ := own_type H4.out.2.2.2.1 e.symm; have := HS0.out.1; omega)).trans ((Below.heap_alloc _ _ _ (Nat.lt_of_lt_of_le hb H4.out.2.2.2.2.size)).trans (H4.out.2.2.2.2.block b hb))⟩
              obtain ⟨d0, d1, d2, dz⟩ := three_c h35
              have df : ∀ o, w5.frozen? ⟨b3, o, none⟩ = false := fun o => by simp [World.frozen?, h35]
              have h36 : (w5.setCell ⟨b3, 2, none⟩ (.slice XB (t + 1) xcb)).heap[b3]? = some (.cells #[.slice UA n1 uc, .slice VA mc1 vc, .slice XB (t + 1) xcb] 50 (0, 0)) := by simp [World.setCell, Array.getElem?_modify, h35]
              have hk7 : ∀ (g : Nat) (cs : Array Value) (e : TypeId), w5.heap[g]? = some (Obj.cells cs e (0, 0)) → e ≠ 50 → (w5.setCell ⟨b3, 2, none⟩ (.slice XB (t + 1) xcb)).heap[g]? = w5.heap[g]? := fun g cs e hg he => heap_far (ty_ne hg h35 he)
              have hk8 : ∀ (g : Nat) (cs : Array Value) (e : TypeId), w4.heap[g]? = some (Obj.cells cs e (0, 0)) → e = 3 ∨ e = 32 → (w5.setCell ⟨b3, 2, none⟩ (.slice XB (t + 1) xcb)).heap[g]? = w4.heap[g]? := fun g cs e hg he => by
                have h1 := hk6 g cs e hg (by rcases he with rfl | rfl <;> decide)
                exact (hk7 g cs e (h1.trans hg) (by rcases he with rfl | rfl <;> decide)).trans h1
              have hx6 : Ext W1 (w5.setCell ⟨b3, 2, none⟩ (.slice XB (t + 1) xcb)) := hx5.sc (by have := HS0.out.1; have := HB3.out; omega)
              have hX6 : (w5.setCell ⟨b3, 2, none⟩ (.slice XB (t + 1) xcb)).ownsRow s0 60 2 (.slice XB (t + 1) xcb) (t + 1) (prl a b (t + 1)) := by
                rw [prl_succ, ← HPQ.out.1, ← HPQ.out.2]
                exact own_keep hown fun g hg => by obtain ⟨cur, hc, -⟩ := own_type hown hg; exact hk7 g _ _ hc (by decide)
              have HN := Lib.hid (And.intro h36 (And.intro (H4.out.2.1.keep hk8) (And.intro (own_keep H4.out.2.2.1 fun g hg => by obtain ⟨cur, hc, -⟩ := own_type H4.out.2.2.1 hg; exact hk8 g _ _ hc (.inl rfl)) (And.intro hX6 hx6))))
              clear hk6 h35 hx5 h36 hk7 hk8 hx6 hX6 hown hgrow hown4 f0 f1 f2 fz
              go_wp2
              go_roundw
              case rel => exact ⟨t + 1, XB, xcb, by go_num, by omega, by omega, HN⟩
              case measure => simp [intOf] <;> omega
          · obtain rfl : t = m := by omega
            have hx9 : ¬ (t : Int) < (t : Int) := by omega
            have hm42 : m1 = t := by have := HMM.out; omega
            have HE : Hid (wr.heap[b3]? = some (.cells #[.slice UA n1 uc, .slice VA mc1 vc, .slice XA m1 xc] 50 (0, 0)) ∧ Rws wr s0 (.slice VA mc1 vc) mc1 us ln y ∧ wr.ownsRow s0 3 1 (.slice UA n1 uc) n1 (nl n1 st) ∧ wr.ownsRow s0 60 2 (.slice XA m1 xc) m1 (prl a b m1) ∧ Ext W1 wr) := Lib.hid (by rw [hm42]; exact hin.out)
            clear hin c0 c1 c2 z0 hm42
            obtain ⟨wz, hwz⟩ : ∃ w, w = wr := ⟨_, rfl⟩
            subst hwz
            obtain ⟨f0, f1, f2, fz⟩ := three_c HE.out.1
            have gz : s + 1 < W1.heap.size := by have := HB.out.2.2; omega
            have gh := (HE.out.2.2.2.2.block (s + 1) gz).trans HB.out.2.1
            obtain ⟨g0, g1, g2, -⟩ := three_c gh
            have gf : ∀ o, wz.frozen? ⟨s + 1, o, none⟩ = false := fun o => by simp [World.frozen?, gh]
            clear gh
            go_wp2
            refine bodyPost_ret (v := .agg #[.slice UA n1 uc, .slice VA mc1 vc, .slice XA m1 xc]) (by simp [results, Tryd.results31, go_sem, g0, g1, g2]) rfl ?_
            have hse := HS.out
            have hxx := (((E1.out.trans HE.out.2.2.2.2).sc (g := s + 1) (i := 0) (v := .slice UA n1 uc) (by omega)).sc (g := s + 1) (i := 1) (v := .slice VA mc1 vc) (by omega)).sc (g := s + 1) (i := 2) (v := .slice XA m1 xc) (by omega)
            have hkk : ∀ g, s0 ≤ g → (((wz.setCell ⟨s + 1, 0, none⟩ (.slice UA n1 uc)).setCell ⟨s + 1, 1, none⟩ (.slice VA mc1 vc)).setCell ⟨s + 1, 2, none⟩ (.slice XA m1 xc)).heap[g]? = wz.heap[g]? := fun g hg => by
              have hne : g ≠ s + 1 := by have := HS0.out.2; omega
              exact (heap_far hne).trans ((heap_far hne).trans (heap_far hne))
            refine ⟨_, _, _, rfl, ⟨?_, ?_, ?_, by omega, by have := HMM.out; omega, fun i hi => by omega, by have := HMM.out; omega⟩, hxx⟩
            · exact own_il (own_keep HE.out.2.2.1 fun g hg => by obtain ⟨cur, hc, h⟩ := own_type HE.out.2.2.1 hg; exact hkk g h)
            · refine Rws.mx (us := us) (base := s0) ⟨own_keep HE.out.2.1.1 fun g hg => by obtain ⟨cur, hc, h⟩ := own_type HE.out.2.1.1 hg; exact hkk g h, fun i hi => ?_⟩
              obtain ⟨u, hu, ho⟩ := HE.out.2.1.2 i hi
              exact ⟨u, hu, own_keep ho fun g hg => by obtain ⟨cur, hc, h⟩ := own_type ho hg; exact hkk g h⟩
            · exact own_px (own_keep HE.out.2.2.2.1 fun g hg => by obtain ⟨cur, hc, h⟩ := own_type HE.out.2.2.2.1 hg; exact hkk g h)
      · obtain rfl : j = mc := by omega
        have hx9 : ¬ (j : Int) < (j : Int) := by omega
        have HIN : Hid (wr.heap[b3]? = some (.cells #[.slice UA n1 uc, .slice VA mc1 vc, .slice none 0 0] 50 (0, 0)) ∧ Rws wr s0 (.slice VA mc1 vc) mc1 us ln y ∧ wr.ownsRow s0 3 1 (.slice UA n1 uc) n1 (nl n1 st) ∧ Ext W1 wr) := Lib.hid (by rw [show mc1 = j by have := HMM.out; omega]; exact hin.out)
        clear hin hgo
        go_wp2_with fail
        go_loopw [7, 42] (fun _ i wz => ∃ (t : Nat) (XA : Option Addr) (xc : Nat), i = .int .i64 t ∧ t ≤ m ∧ t ≤ 42 ∧ Hid (wz.heap[b3]? = some (.cells #[.slice UA n1 uc, .slice VA mc1 vc, .slice XA t xc] 50 (0, 0)) ∧ Rws wz s0 (.slice VA mc1 vc) mc1 us ln y ∧ wz.ownsRow s0 3 1 (.slice UA n1 uc) n1 (nl n1 st) ∧ wz.ownsRow s0 60 2 (.slice XA t xc) t (prl a b t) ∧ Ext W1 wz)) (fun _ i _ => m - (intOf i).toNat)
        case atStart => exact ⟨0, none, 0, rfl, Nat.zero_le _, Nat.zero_le _, Lib.hid ⟨HIN.out.1, HIN.out.2.1, HIN.out.2.2.1, World.ownsRow_nil _ _ _ _, HIN.out.2.2.2⟩⟩
        case round =>
          clear HIN c0 c1 c2 z0
          obtain ⟨t, XA, xc, rfl, ht, ht42, hin⟩ := hrel
          obtain ⟨c0, c1, c2, z0⟩ := three_c HB.out.1
          replace c0 := hin.out.2.2.2.2.at z0 c0
          replace c1 := hin.out.2.2.2.2.at z0 c1
          replace c2 := hin.out.2.2.2.2.at z0 c2
          replace z0 := Nat.lt_of_lt_of_le z0 hin.out.2.2.2.2.size
          by_cases hlt2 : t < m
          · obtain ⟨pg, po, rfl, zg, hcell⟩ := HPR.out (by omega)
            obtain ⟨q1, q2⟩ := hcell t hlt2
            replace q1 := (E1.out.trans hin.out.2.2.2.2).at zg q1
            replace q2 := (E1.out.trans hin.out.2.2.2.2).at zg q2
            have zg2 := Nat.lt_of_lt_of_le zg (E1.out.trans hin.out.2.2.2.2).size
            obtain ⟨p, hp⟩ : ∃ p, p = a t := ⟨_, rfl⟩
            obtain ⟨q, hq⟩ : ∃ q, q = b t := ⟨_, rfl⟩
            rw [← hp] at q1
            rw [← hq] at q2
            have HPQ := Lib.hid (And.intro hp hq)
            clear hcell hp hq zg
            by_cases h42 : t = 42
            · subst h42
              have h41 : (41 : Int) < ((42 : Nat) : Int) := by decide
              go_upto_region 11 with fail
              have e4 : Ext wr (wr.alloc (.cells #[.int .i64 p, .int .i64 q] 60)) := al1 wr _
              generalize wr.alloc (.cells #[.int .i64 p, .int .i64 q] 60) = wz at *
              have hm42 : m1 = 42 := by have := HMM.out; omega
              have HE : Hid (wz.heap[b3]? = some (.cells #[.slice UA n1 uc, .slice VA mc1 vc, .slice XA m1 xc] 50 (0, 0)) ∧ Rws wz s0 (.slice VA mc1 vc) mc1 us ln y ∧ wz.ownsRow s0 3 1 (.slice UA n1 uc) n1 (nl n1 st) ∧ wz.ownsRow s0 60 2 (.slice XA m1 xc) m1 (prl a b m1) ∧ Ext W1 wz) := Lib.hid (by rw [hm42]; exact ⟨ext_ty e4 hin.out.1, hin.out.2.1.ext e4, World.ownsRow.ext hin.out.2.2.1 e4, World.ownsRow.ext hin.out.2.2.2.1 e4, hin.out.2.2.2.2.trans e4⟩)
              clear e4 hin c0 c1 c2 z0 q1 q2 zg2 hm42
              obtain ⟨f0, f1, f2, fz⟩ := three_c HE.out.1
              have gz : s + 1 < W1.heap.size := by have := HB.out.2.2; omega
              have gh := (HE.out.2.2.2.2.block (s + 1) gz).trans HB.out.2.1
              obtain ⟨g0, g1, g2, -⟩ := three_c gh
              have gf : ∀ o, wz.frozen? ⟨s + 1, o, none⟩ = false := fun o => by simp [World.frozen?, gh]
              clear gh
              go_wp2
              refine bodyPost_ret (v := .agg #[.slice UA n1 uc, .slice VA mc1 vc, .slice XA m1 xc]) (by simp [results, Tryd.results31, go_sem, g0, g1, g2]) rfl ?_
              have hse := HS.out
              have hxx := (((E1.out.trans HE.out.2.2.2.2).sc (g := s + 1) (i := 0) (v := .slice UA n1 uc) (by omega)).sc (g := s + 1) (i := 1) (v := .slice VA mc1 vc) (by omega)).sc (g := s + 1) (i := 2) (v := .slice XA m1 xc) (by omega)
              have hkk : ∀ g, s0 ≤ g → (((wz.setCell ⟨s + 1, 0, none⟩ (.slice UA n1 uc)).setCell ⟨s + 1, 1, none⟩ (.slice VA mc1 vc)).setCell ⟨s + 1, 2, none⟩ (.slice XA m1 xc)).heap[g]? = wz.heap[g]? := fun g hg => by
                have hne : g ≠ s + 1 := by have := HS0.out.2; omega
                exact (heap_far hne).trans ((heap_far hne).trans (heap_far hne))
              refine ⟨_, _, _, rfl, ⟨?_, ?_, ?_, by omega, by have := HMM.out; omega, fun i hi => by omega, by have := HMM.out; omega⟩, hxx⟩
              · exact own_il (own_keep HE.out.2.2.1 fun g hg => by obtain ⟨cur, hc, h⟩ := own_type HE.out.2.2.1 hg; exact hkk g h)
              · refine Rws.mx (us := us) (base := s0) ⟨own_keep HE.out.2.1.1 fun g hg => by obtain ⟨cur, hc, h⟩ := own_type HE.out.2.1.1 hg; exact hkk g h, fun i hi => ?_⟩
                obtain ⟨u, hu, ho⟩ := HE.out.2.1.2 i hi
                exact ⟨u, hu, own_keep ho fun g hg => by obtain ⟨cur, hc, h⟩ := own_type ho hg; exact hkk g h⟩
              · exact own_px (own_keep HE.out.2.2.2.1 fun g hg => by obtain ⟨cur, hc, h⟩ := own_type HE.out.2.2.2.1 hg; exact hkk g h)
            · have h41 : ¬ (41 : Int) < (t : Int) := by omega
              go_upto_region 11 with fail
              have e4 : Ext wr (wr.alloc (.cells #[.int .i64 p, .int .i64 q] 60)) := al1 wr _
              have hb4 := heap_alloc_new wr (.cells #[.int .i64 p, .int .i64 q] 60)
              obtain ⟨p4, hp4⟩ : ∃ t, t = wr.heap.size := ⟨_, rfl⟩
              rw [← hp4] at hb4 ⊢
              generalize wr.alloc (.cells #[.int .i64 p, .int .i64 q] 60) = w4 at *
              obtain ⟨d0, d1, dz, -⟩ := two_c hb4
              have H4 : Hid (w4.heap[b3]? = some (.cells #[.slice UA n1 uc, .slice VA mc1 vc, .slice XA t xc] 50 (0, 0)) ∧ Rws w4 s0 (.slice VA mc1 vc) mc1 us ln y ∧ w4.ownsRow s0 3 1 (.slice UA n1 uc) n1 (nl n1 st) ∧ w4.ownsRow s0 60 2 (.slice XA t xc) t (prl a b t) ∧ Ext W1 w4) := Lib.hid ⟨ext_ty e4 hin.out.1, hin.out.2.1.ext e4, World.ownsRow.ext hin.out.2.2.1 e4, World.ownsRow.ext hin.out.2.2.2.1 e4, hin.out.2.2.2.2.trans e4⟩
              obtain ⟨f0, f1, f2, fz⟩ := three_c H4.out.1
              have hs4 : s0 ≤ w4.heap.size := by have := H4.out.2.2.2.2.size; have := HS0.out.1; omega
              have hown4 := World.ownsRow.ext H4.out.2.2.2.1 (Ext.alc (Ext.refl w4) (.cells #[.int .i64 p, .int .i64 q] 60))
              obtain ⟨r0, r1, -, -⟩ := two_c (heap_alloc_new w4 (.cells #[.int .i64 p, .int .i64 q] 60))
              have HR01 := Lib.hid (And.intro r0 r1)
              clear e4 hin hb4 hp4 c0 c1 c2 z0 q1 q2 zg2 r0 r1
              go_wp2_with (at_builtin; refine wpList_append_own_at _ rfl _ _ 46 rfl s0 60 j0 (.agg #[.int .i64 0, .int .i64 0]) 2 16 Tryd.underlying46 HJ.out.1 HJ.out.2.1 HJ.out.2.2.1 HJ.out.2.2.2 rfl (by decide) _ t (prl a b t) rfl hown4 ⟨w4.heap.size, 0, none⟩ 1 1 [.int .i64 p, .int .i64 q] rfl rfl ?dc1 ?dc2 ?dc3 ?dc4 ?dc5 ?_)
              case dc2 => exact ⟨rfl, rfl⟩
              case dc3 => unfold maxLen; omega
              case dc4 => omega
              case dc5 => first | omega | (simp; omega)
              intro v' w5 hown hgrow hnil hob
              clear hnil hob
              obtain ⟨XB, xcb, rfl⟩ := shape_own hown
              have hk6 : ∀ (g : Nat) (cs : Array Value) (e : TypeId), w4.heap[g]? = some (Obj.cells cs e (0, 0)) → e ≠ 60 → w5.heap[g]? = w4.heap[g]? := fun g cs e hg he => (hgrow.block g (by have := (Array.getElem?_eq_some_iff.1 hg).1; simp; omega) (fun e' => own_far H4.out.2.2.2.1 hg (fun e => he e.symm) e'.symm)).trans (Below.heap_alloc _ _ _ (Array.getElem?_eq_some_iff.1 hg).1)
              have h35 := (hk6 b3 _ _ H4.out.1 (by decide)).trans H4.out.1
              have hx5 : Ext W1 w5 := ⟨hgrow.os.trans H4.out.2.2.2.2.os, hgrow.tape.trans H4.out.2.2.2.2.tape, hgrow.output.trans H4.out.2.2.2.2.output, by have h1 := hgrow.size; have h2 := H4.out.2.2.2.2.size; simp at h1; omega, fun b hb => (hgrow.block b (by have h2 := H4.out.2.2.2.2.size; simp; omega) (fun e => by obtain ⟨cur, -, h⟩ := own_type H4.out.2.2.2.1 e.symm; have := HS0.out.1; omega)).trans ((Below.heap_alloc _ _ _ (Nat.lt_of_lt_of_le hb H4.out.2.2.2.2.size)).trans (H4.out.2.2.2.2.block b hb))⟩
              obtain ⟨d0, d1, d2, dz⟩ := three_c h35
              have df : ∀ o, w5.frozen? ⟨b3, o, none⟩ = false := fun o => by simp [World.frozen?, h35]
              have h36 : (w5.setCell ⟨b3, 2, none⟩ (.slice XB (t + 1) xcb)).heap[b3]? = some (.cells #[.slice UA n1 uc, .slice VA mc1 vc, .slice XB (t + 1) xcb] 50 (0, 0)) := by simp [World.setCell, Array.getElem?_modify, h35]
              have hk7 : ∀ (g : Nat) (cs : Array Value) (e : TypeId), w5.heap[g]? = some (Obj.cells cs e (0, 0)) → e ≠ 50 → (w5.setCell ⟨b3, 2, none⟩ (.slice XB (t + 1) xcb)).heap[g]? = w5.heap[g]? := fun g cs e hg he => heap_far (ty_ne hg h35 he)
              have hk8 : ∀ (g : Nat) (cs : Array Value) (e : TypeId), w4.heap[g]? = some (Obj.cells cs e (0, 0)) → e = 3 ∨ e = 32 → (w5.setCell ⟨b3, 2, none⟩ (.slice XB (t + 1) xcb)).heap[g]? = w4.heap[g]? := fun g cs e hg he => by
                have h1 := hk6 g cs e hg (by rcases he with rfl | rfl <;> decide)
                exact (hk7 g cs e (h1.trans hg) (by rcases he with rfl | rfl <;> decide)).trans h1
              have hx6 : Ext W1 (w5.setCell ⟨b3, 2, none⟩ (.slice XB (t + 1) xcb)) := hx5.sc (by have := HS0.out.1; have := HB3.out; omega)
              have hX6 : (w5.setCell ⟨b3, 2, none⟩ (.slice XB (t + 1) xcb)).ownsRow s0 60 2 (.slice XB (t + 1) xcb) (t + 1) (prl a b (t + 1)) := by
                rw [prl_succ, ← HPQ.out.1, ← HPQ.out.2]
                exact own_keep hown fun g hg => by obtain ⟨cur, hc, -⟩ := own_type hown hg; exact hk7 g _ _ hc (by decide)
              have HN := Lib.hid (And.intro h36 (And.intro (H4.out.2.1.keep hk8) (And.intro (own_keep H4.out.2.2.1 fun g hg => by obtain ⟨cur, hc, -⟩ := own_type H4.out.2.2.1 hg; exact hk8 g _ _ hc (.inl rfl)) (And.intro hX6 hx6))))
              clear hk6 h35 hx5 h36 hk7 hk8 hx6 hX6 hown hgrow hown4 f0 f1 f2 fz
              go_wp2
              go_roundw
              case rel => exact ⟨t + 1, XB, xcb, by go_num, by omega, by omega, HN⟩
              case measure => simp [intOf] <;> omega
          · obtain rfl : t = m := by omega
            have hx9 : ¬ (t : Int) < (t : Int) := by omega
            have hm42 : m1 = t := by have := HMM.out; omega
            have HE : Hid (wr.heap[b3]? = some (.cells #[.slice UA n1 uc, .slice VA mc1 vc, .slice XA m1 xc] 50 (0, 0)) ∧ Rws wr s0 (.slice VA mc1 vc) mc1 us ln y ∧ wr.ownsRow s0 3 1 (.slice UA n1 uc) n1 (nl n1 st) ∧ wr.ownsRow s0 60 2 (.slice XA m1 xc) m1 (prl a b m1) ∧ Ext W1 wr) := Lib.hid (by rw [hm42]; exact hin.out)
            clear hin c0 c1 c2 z0 hm42
            obtain ⟨wz, hwz⟩ : ∃ w, w = wr := ⟨_, rfl⟩
            subst hwz
            obtain ⟨f0, f1, f2, fz⟩ := three_c HE.out.1
            have gz : s + 1 < W1.heap.size := by have := HB.out.2.2; omega
            have gh := (HE.out.2.2.2.2.block (s + 1) gz).trans HB.out.2.1
            obtain ⟨g0, g1, g2, -⟩ := three_c gh
            have gf : ∀ o, wz.frozen? ⟨s + 1, o, none⟩ = false := fun o => by simp [World.frozen?, gh]
            clear gh
            go_wp2
            refine bodyPost_ret (v := .agg #[.slice UA n1 uc, .slice VA mc1 vc, .slice XA m1 xc]) (by simp [results, Tryd.results31, go_sem, g0, g1, g2]) rfl ?_
            have hse := HS.out
            have hxx := (((E1.out.trans HE.out.2.2.2.2).sc (g := s + 1) (i := 0) (v := .slice UA n1 uc) (by omega)).sc (g := s + 1) (i := 1) (v := .slice VA mc1 vc) (by omega)).sc (g := s + 1) (i := 2) (v := .slice XA m1 xc) (by omega)
            have hkk : ∀ g, s0 ≤ g → (((wz.setCell ⟨s + 1, 0, none⟩ (.slice UA n1 uc)).setCell ⟨s + 1, 1, none⟩ (.slice VA mc1 vc)).setCell ⟨s + 1, 2, none⟩ (.slice XA m1 xc)).heap[g]? = wz.heap[g]? := fun g hg => by
              have hne : g ≠ s + 1 := by have := HS0.out.2; omega
              exact (heap_far hne).trans ((heap_far hne).trans (heap_far hne))
            refine ⟨_, _, _, rfl, ⟨?_, ?_, ?_, by omega, by have := HMM.out; omega, fun i hi => by omega, by have := HMM.out; omega⟩, hxx⟩
            · exact own_il (own_keep HE.out.2.2.1 fun g hg => by obtain ⟨cur, hc, h⟩ := own_type HE.out.2.2.1 hg; exact hkk g h)
            · refine Rws.mx (us := us) (base := s0) ⟨own_keep HE.out.2.1.1 fun g hg => by obtain ⟨cur, hc, h⟩ := own_type HE.out.2.1.1 hg; exact hkk g h, fun i hi => ?_⟩
              obtain ⟨u, hu, ho⟩ := HE.out.2.1.2 i hi
              exact ⟨u, hu, own_keep ho fun g hg => by obtain ⟨cur, hc, h⟩ := own_type ho hg; exact hkk g h⟩
            · exact own_px (own_keep HE.out.2.2.2.1 fun g hg => by obtain ⟨cur, hc, h⟩ := own_type HE.out.2.2.2.1 hg; exact hkk g h)
end Go.Proofs.YtlachbodibajlaaDoor
