/- Walks: Apply. -/
import Derived.Test.YtgjanbgehbpciaaV11
namespace Go.Proofs.Ytgjanbgehbpciaa
open Go.RowKit

theorem validS_is {w h : Int} {A : Option Addr} {n c : Nat} {l : List Int} {b : Bool} (hs : vst w h l = b) (W : World) (hv : Il W (.slice A n c) l) : Calls Try.prog 16 #[.agg #[.int .i64 w, .int .i64 h, .slice A n c]] W fun e W' => e = .returned (.bool b) ∧ Ext W W' := hs ▸ validS_any w h A n c l W hv
theorem validR_is {w h : Int} {A : Option Addr} {n c : Nat} {l : List Int} {b : Bool} (hs : vst w h l = b) (W : World) (hv : Il W (.slice A n c) l) : Calls Try.prog 17 #[.agg #[.int .i64 w, .int .i64 h, .slice A n c]] W fun e W' => e = .returned (.bool b) ∧ Ext W W' := hs ▸ validR_any w h A n c l W hv
theorem sizeOf_is (w h : Int) (A : Option Addr) (n c : Nat) (W : World) : Calls Try.prog 50 #[.agg #[.int .i64 w, .int .i64 h, .slice A n c]] W fun e W' => e = .returned (.agg #[.int .i64 w, .int .i64 h]) ∧ Ext W W' := sizeOf_any w h _ A n c W rfl

theorem vst_len {w h : Int} {l : List Int} (hv : vst w h l = true) : okSize w h = true ∧ (l.length : Int) = w * h ∧ l.all isCol = true := by
  unfold vst at hv
  simp only [Bool.and_eq_true, decide_eq_true_eq] at hv
  exact ⟨hv.1.1, hv.1.2, hv.2⟩

/-- applied, of a stamp -/
theorem applied_any (m : Mv) (w h : Nat) (A : Option Addr) (n c : Nat) (l : List Int) (W : World) (hv : vst w h l = true) (hm : has w h m = true) (hl : Il W (.slice A n c) l) :
    Calls Try.prog 52 #[.agg #[.int .i64 m.dx, .int .i64 m.dy, .int .i64 m.t, .bool m.f], .agg #[.int .i64 w, .int .i64 h, .slice A n c]] W fun e W' =>
      ∃ A', e = .returned (.agg #[.int .i64 w, .int .i64 h, .slice A' n n]) ∧ Il W' (.slice A' n n) (apl w h m l n) ∧ Fr W.heap.size (.slice A' n n) ∧ Ext W W' := by
  have hn := hl.len
  obtain ⟨hs, hlen, -⟩ := vst_len hv
  obtain ⟨A', c', he, h1, h2, h4⟩ := hl
  injection he with e1 e2 e3
  subst e1 e3
  have ha := area_in hs
  rw [okSize_iff] at hs
  rw [has_iff] at hm
  have e : ((w * h : Nat) : Int) = (w : Int) * h := by simp
  obtain ⟨b, off, rfl, hbl, hc⟩ := h4 (by omega)
  obtain ⟨dx, dy, t, f⟩ := m
  simp only at hm ⊢
  obtain ⟨k, rfl⟩ : ∃ k : Nat, t = k := ⟨t.toNat, by omega⟩
  exact applied_c w h dx dy k f b off c l n W (by omega) (by omega) (by omega) (by omega) hbl (fun j hj => hc j (by omega))

set_option maxHeartbeats 2000000 in
set_option maxRecDepth 100000 in
theorem apply_vf (w h : Int) (m : Mv) (A : Option Addr) (n c : Nat) (l : List Int) (W : World) (hl : Il W (.slice A n c) l) (hv : vst w h l = false) :
    Calls Try.prog 13 #[.agg #[.int .i64 m.dx, .int .i64 m.dy, .int .i64 m.t, .bool m.f], .agg #[.int .i64 w, .int .i64 h, .slice A n c]] W fun e W' => e = .returned (.tuple #[.agg #[.int .i64 0, .int .i64 0, .slice none 0 0], .int .i64 2]) ∧ Below W.heap.size W W' := by
  have Hv := Lib.hid hv; clear hv
  have Hl := Lib.hid hl; clear hl
  go_enter Try.func13, Try.ntmps13
  go_wp2_with fail
  have q0 := q4_a1 W (.int .i64 m.dx) (.int .i64 m.dy) (.int .i64 m.t) (.bool m.f) 31 (.cells #[.int .i64 w, .int .i64 h, .slice A n c] 27) (.cells #[.int .i64 0, .int .i64 0, .slice none 0 0] 27)
  have q1 : Q3 (((W.alloc (.cells #[.int .i64 m.dx, .int .i64 m.dy, .int .i64 m.t, .bool m.f] 31)).alloc (.cells #[.int .i64 w, .int .i64 h, .slice A n c] 27)).alloc (.cells #[.int .i64 0, .int .i64 0, .slice none 0 0] 27)) (W.heap.size + 1) (.int .i64 w) (.int .i64 h) (.slice A n c) := by
    refine ⟨?_, ?_, ?_⟩ <;> (rw [World.cell?_alloc_past _ _ _ (by simp), World.cell?_alloc_at _ _ _ _ (by simp)]; rfl)
  have q2 : TB (((W.alloc (.cells #[.int .i64 m.dx, .int .i64 m.dy, .int .i64 m.t, .bool m.f] 31)).alloc (.cells #[.int .i64 w, .int .i64 h, .slice A n c] 27)).alloc (.cells #[.int .i64 0, .int .i64 0, .slice none 0 0] 27)) (W.heap.size + 1 + 1) := by
    have := heap_alloc_new ((W.alloc (.cells #[.int .i64 m.dx, .int .i64 m.dy, .int .i64 m.t, .bool m.f] 31)).alloc (.cells #[.int .i64 w, .int .i64 h, .slice A n c] 27)) (.cells #[.int .i64 0, .int .i64 0, .slice none 0 0] 27)
    simp only [World.size_alloc] at this
    exact ⟨_, _, _, _, this⟩
  have bb := al3 W (.cells #[.int .i64 m.dx, .int .i64 m.dy, .int .i64 m.t, .bool m.f] 31) (.cells #[.int .i64 w, .int .i64 h, .slice A n c] 27) (.cells #[.int .i64 0, .int .i64 0, .slice none 0 0] 27)
  have zz : (((W.alloc (.cells #[.int .i64 m.dx, .int .i64 m.dy, .int .i64 m.t, .bool m.f] 31)).alloc (.cells #[.int .i64 w, .int .i64 h, .slice A n c] 27)).alloc (.cells #[.int .i64 0, .int .i64 0, .slice none 0 0] 27)).heap.size = W.heap.size + 1 + 1 + 1 := by simp
  generalize (((W.alloc (.cells #[.int .i64 m.dx, .int .i64 m.dy, .int .i64 m.t, .bool m.f] 31)).alloc (.cells #[.int .i64 w, .int .i64 h, .slice A n c] 27)).alloc (.cells #[.int .i64 0, .int .i64 0, .slice none 0 0] 27)) = W3 at *
  have zle : W.heap.size + 1 + 1 + 1 ≤ W3.heap.size := by omega
  have BB := Lib.hid bb; clear bb zz
  have Q2 := Lib.hid q2; clear q2
  obtain ⟨m0, m1, m2, m3⟩ := q0
  obtain ⟨s0, s1, s2⟩ := q1
  have ks : ∀ Y, Ext W3 Y → Y.cell? ⟨W.heap.size, 0, none⟩ = some (.int .i64 m.dx) ∧ Y.cell? ⟨W.heap.size, 1, none⟩ = some (.int .i64 m.dy) ∧ Y.cell? ⟨W.heap.size, 2, none⟩ = some (.int .i64 m.t) ∧ Y.cell? ⟨W.heap.size, 3, none⟩ = some (.bool m.f) ∧ Y.cell? ⟨W.heap.size + 1, 0, none⟩ = some (.int .i64 w) ∧ Y.cell? ⟨W.heap.size + 1, 1, none⟩ = some (.int .i64 h) ∧ Y.cell? ⟨W.heap.size + 1, 2, none⟩ = some (.slice A n c) :=
    fun Y h => ⟨keepAt h (by omega) m0, keepAt h (by omega) m1, keepAt h (by omega) m2, keepAt h (by omega) m3, keepAt h (by omega) s0, keepAt h (by omega) s1, keepAt h (by omega) s2⟩
  have KS := Lib.hid ks; clear ks
  refine wp_region_noPanic ?_
  refine wp_region_held_drew (S := fun X => Ext W3 X) (by kernel_rfl) (Ext.drw (Ext.refl _)) (fun _ => ?_)
  refine take_at 0 (some 6) (.agg #[.int .i64 w, .int .i64 h, .slice A n c]) rfl rfl (by kernel_rfl) (by kernel_rfl) (by kernel_rfl) (fun _ _ _ h => h) (Or.inl ⟨by rfl, fun w' hSw => ?_⟩) (Ext.drw (Ext.refl _)) ?_
  · have q0 := keepAt hSw (by omega) s0
    have q1 := keepAt hSw (by omega) s1
    have q2 := keepAt hSw (by omega) s2
    clear hSw
    go_simp
    all_goals (with_reducible rfl)
  try simp only [Act.put, List.setIfInBounds_toArray, List.set_cons_zero, List.set_cons_succ]
  refine wpAnyH_ready (rs := [1]) (by kernel_rfl) (by simp) ?_
  refine AllReadyH.cons rfl (fun K hK => ?_) AllReadyH.nil
  go_simp
  refine (validS_is Hv.out _ (Hl.out.below (nx BB.out (Ext.drw (Ext.refl _))))).mono ?_
  rintro e w1 ⟨rfl, hx1⟩
  have bl1 : Ext W3 w1 := Ext.trans (Ext.drw (Ext.refl _)) hx1
  have z1 := bl1.size
  try go_wp2_with fail
  refine hK.out _ _ bl1 (fun _ => ?_)
  clear hK K
  try simp only [Act.put, List.setIfInBounds_toArray, List.set_cons_zero, List.set_cons_succ]
  refine take_at 2 (some 8) (.bool true) rfl rfl (by kernel_rfl) (by kernel_rfl) (by kernel_rfl) (fun _ _ _ h => h) (Or.inl ⟨by rfl, fun w' hSw => ?_⟩) (bl1) ?_
  · skip
    clear hSw
    go_simp
    all_goals (with_reducible rfl)
  try simp only [Act.put, List.setIfInBounds_toArray, List.set_cons_zero, List.set_cons_succ]
  refine take_at 3 (some 9) (.bool true) rfl rfl (by kernel_rfl) (by kernel_rfl) (by kernel_rfl) (fun _ _ _ h => h) (Or.inl ⟨by rfl, fun w' hSw => ?_⟩) (bl1) ?_
  · skip
    clear hSw
    go_simp
    all_goals (with_reducible rfl)
  try simp only [Act.put, List.setIfInBounds_toArray, List.set_cons_zero, List.set_cons_succ]
  refine take_at 4 (some 10) undef rfl rfl (by kernel_rfl) (by kernel_rfl) (by kernel_rfl) (fun _ _ _ h => h) (Or.inr ⟨by rfl, rfl⟩) (bl1) ?_
  try simp only [Act.put, List.setIfInBounds_toArray, List.set_cons_zero, List.set_cons_succ]
  refine take_at 5 (some 11) undef rfl rfl (by kernel_rfl) (by kernel_rfl) (by kernel_rfl) (fun _ _ _ h => h) (Or.inr ⟨by rfl, rfl⟩) (bl1) ?_
  try simp only [Act.put, List.setIfInBounds_toArray, List.set_cons_zero, List.set_cons_succ]
  refine take_at 6 (some 12) undef rfl rfl (by kernel_rfl) (by kernel_rfl) (by kernel_rfl) (fun _ _ _ h => h) (Or.inr ⟨by rfl, rfl⟩) (bl1) ?_
  try simp only [Act.put, List.setIfInBounds_toArray, List.set_cons_zero, List.set_cons_succ]
  refine take_at 7 (some 13) undef rfl rfl (by kernel_rfl) (by kernel_rfl) (by kernel_rfl) (fun _ _ _ h => h) (Or.inr ⟨by rfl, rfl⟩) (bl1) ?_
  try simp only [Act.put, List.setIfInBounds_toArray, List.set_cons_zero, List.set_cons_succ]
  refine take_at 8 (some 14) undef rfl rfl (by kernel_rfl) (by kernel_rfl) (by kernel_rfl) (fun _ _ _ h => h) (Or.inr ⟨by rfl, rfl⟩) (bl1) ?_
  try simp only [Act.put, List.setIfInBounds_toArray, List.set_cons_zero, List.set_cons_succ]
  refine take_at 9 (some 15) (.bool true) rfl rfl (by kernel_rfl) (by kernel_rfl) (by kernel_rfl) (fun _ _ _ h => h) (Or.inl ⟨by rfl, fun w' hSw => ?_⟩) (bl1) ?_
  · skip
    clear hSw
    go_simp
    all_goals (with_reducible rfl)
  try simp only [Act.put, List.setIfInBounds_toArray, List.set_cons_zero, List.set_cons_succ]
  refine wpAnyH_done (by kernel_rfl) ?_ _
  refine NoPanic.normal ?_
  obtain ⟨⟨_, _, _, r0, r1, r2⟩, rf⟩ := (Q2.out.ext bl1).facts
  have zz := (bl1).size
  go_wp2
  refine bodyPost_ret (v := .tuple #[.agg #[.int .i64 0, .int .i64 0, .slice none 0 0], .int .i64 2]) (by simp [results, Try.results13, go_sem, r0, r1, r2]) rfl ⟨rfl, ?_⟩
  exact sc (sc (sc (nx BB.out bl1) (by omega) _) (by omega) _) (by omega) _

set_option maxHeartbeats 2000000 in
set_option maxRecDepth 100000 in
theorem apply_vt_hf (w h : Int) (m : Mv) (A : Option Addr) (n c : Nat) (l : List Int) (W : World) (hl : Il W (.slice A n c) l) (hv : vst w h l = true) (hm : has w h m = false) :
    Calls Try.prog 13 #[.agg #[.int .i64 m.dx, .int .i64 m.dy, .int .i64 m.t, .bool m.f], .agg #[.int .i64 w, .int .i64 h, .slice A n c]] W fun e W' => e = .returned (.tuple #[.agg #[.int .i64 0, .int .i64 0, .slice none 0 0], .int .i64 2]) ∧ Below W.heap.size W W' := by
  have Hv := Lib.hid hv; clear hv
  have Hm := Lib.hid hm; clear hm
  have Hl := Lib.hid hl; clear hl
  go_enter Try.func13, Try.ntmps13
  go_wp2_with fail
  have q0 := q4_a1 W (.int .i64 m.dx) (.int .i64 m.dy) (.int .i64 m.t) (.bool m.f) 31 (.cells #[.int .i64 w, .int .i64 h, .slice A n c] 27) (.cells #[.int .i64 0, .int .i64 0, .slice none 0 0] 27)
  have q1 : Q3 (((W.alloc (.cells #[.int .i64 m.dx, .int .i64 m.dy, .int .i64 m.t, .bool m.f] 31)).alloc (.cells #[.int .i64 w, .int .i64 h, .slice A n c] 27)).alloc (.cells #[.int .i64 0, .int .i64 0, .slice none 0 0] 27)) (W.heap.size + 1) (.int .i64 w) (.int .i64 h) (.slice A n c) := by
    refine ⟨?_, ?_, ?_⟩ <;> (rw [World.cell?_alloc_past _ _ _ (by simp), World.cell?_alloc_at _ _ _ _ (by simp)]; rfl)
  have q2 : TB (((W.alloc (.cells #[.int .i64 m.dx, .int .i64 m.dy, .int .i64 m.t, .bool m.f] 31)).alloc (.cells #[.int .i64 w, .int .i64 h, .slice A n c] 27)).alloc (.cells #[.int .i64 0, .int .i64 0, .slice none 0 0] 27)) (W.heap.size + 1 + 1) := by
    have := heap_alloc_new ((W.alloc (.cells #[.int .i64 m.dx, .int .i64 m.dy, .int .i64 m.t, .bool m.f] 31)).alloc (.cells #[.int .i64 w, .int .i64 h, .slice A n c] 27)) (.cells #[.int .i64 0, .int .i64 0, .slice none 0 0] 27)
    simp only [World.size_alloc] at this
    exact ⟨_, _, _, _, this⟩
  have bb := al3 W (.cells #[.int .i64 m.dx, .int .i64 m.dy, .int .i64 m.t, .bool m.f] 31) (.cells #[.int .i64 w, .int .i64 h, .slice A n c] 27) (.cells #[.int .i64 0, .int .i64 0, .slice none 0 0] 27)
  have zz : (((W.alloc (.cells #[.int .i64 m.dx, .int .i64 m.dy, .int .i64 m.t, .bool m.f] 31)).alloc (.cells #[.int .i64 w, .int .i64 h, .slice A n c] 27)).alloc (.cells #[.int .i64 0, .int .i64 0, .slice none 0 0] 27)).heap.size = W.heap.size + 1 + 1 + 1 := by simp
  generalize (((W.alloc (.cells #[.int .i64 m.dx, .int .i64 m.dy, .int .i64 m.t, .bool m.f] 31)).alloc (.cells #[.int .i64 w, .int .i64 h, .slice A n c] 27)).alloc (.cells #[.int .i64 0, .int .i64 0, .slice none 0 0] 27)) = W3 at *
  have zle : W.heap.size + 1 + 1 + 1 ≤ W3.heap.size := by omega
  have BB := Lib.hid bb; clear bb zz
  have Q2 := Lib.hid q2; clear q2
  obtain ⟨m0, m1, m2, m3⟩ := q0
  obtain ⟨s0, s1, s2⟩ := q1
  have ks : ∀ Y, Ext W3 Y → Y.cell? ⟨W.heap.size, 0, none⟩ = some (.int .i64 m.dx) ∧ Y.cell? ⟨W.heap.size, 1, none⟩ = some (.int .i64 m.dy) ∧ Y.cell? ⟨W.heap.size, 2, none⟩ = some (.int .i64 m.t) ∧ Y.cell? ⟨W.heap.size, 3, none⟩ = some (.bool m.f) ∧ Y.cell? ⟨W.heap.size + 1, 0, none⟩ = some (.int .i64 w) ∧ Y.cell? ⟨W.heap.size + 1, 1, none⟩ = some (.int .i64 h) ∧ Y.cell? ⟨W.heap.size + 1, 2, none⟩ = some (.slice A n c) :=
    fun Y h => ⟨keepAt h (by omega) m0, keepAt h (by omega) m1, keepAt h (by omega) m2, keepAt h (by omega) m3, keepAt h (by omega) s0, keepAt h (by omega) s1, keepAt h (by omega) s2⟩
  have KS := Lib.hid ks; clear ks
  go_region_held3 (fun w' => w'.cell? ⟨W.heap.size, 0, none⟩ = some (.int .i64 m.dx) ∧ w'.cell? ⟨W.heap.size, 1, none⟩ = some (.int .i64 m.dy) ∧ w'.cell? ⟨W.heap.size, 2, none⟩ = some (.int .i64 m.t) ∧ w'.cell? ⟨W.heap.size, 3, none⟩ = some (.bool m.f) ∧ w'.cell? ⟨W.heap.size + 1, 0, none⟩ = some (.int .i64 w) ∧ w'.cell? ⟨W.heap.size + 1, 1, none⟩ = some (.int .i64 h) ∧ w'.cell? ⟨W.heap.size + 1, 2, none⟩ = some (.slice A n c))
    (first | with_reducible exact ⟨m0, m1, m2, m3, s0, s1, s2⟩ | (refine KS.out _ ?_; with_reducible (repeat (first | exact Ext.refl _ | refine Ext.drw ?_ | refine Ext.trans ?_ hx3 | refine Ext.trans ?_ hx2 | refine Ext.trans ?_ hx1))))
    (first | (go_at_call 16; refine (validS_is Hv.out _ (Hl.out.below (nx BB.out (Ext.drw (Ext.refl _))))).mono ?_; rintro e w1 ⟨rfl, hx1⟩; have bl1 : Ext W3 w1 := Ext.trans (Ext.drw (Ext.refl _)) hx1; have z1 := bl1.size) | (go_at_call 50; refine (sizeOf_is w h A n c _).mono ?_; rintro e w2 ⟨rfl, hx2⟩; have bl2 : Ext W3 w2 := bl1.trans hx2; have z2 := bl2.size) | (go_at_call 51; refine (has_is Hm.out _).mono ?_; rintro e w3 ⟨rfl, hx3b⟩; have hx3 : Ext w2 w3 := hx3b; have bl3 : Ext W3 w3 := bl2.trans hx3; have z3 := bl3.size))
  obtain ⟨⟨_, _, _, r0, r1, r2⟩, rf⟩ := (Q2.out.ext bl3).facts
  have zz := (bl3).size
  go_wp2
  refine bodyPost_ret (v := .tuple #[.agg #[.int .i64 0, .int .i64 0, .slice none 0 0], .int .i64 2]) (by simp [results, Try.results13, go_sem, r0, r1, r2]) rfl ⟨rfl, ?_⟩
  exact sc (sc (sc (nx BB.out bl3) (by omega) _) (by omega) _) (by omega) _

set_option maxHeartbeats 2000000 in
set_option maxRecDepth 100000 in
theorem apply_ok (w h : Nat) (m : Mv) (A : Option Addr) (n c : Nat) (l : List Int) (W : World) (hl : Il W (.slice A n c) l) (hv : vst w h l = true) (hm : has w h m = true) :
    Calls Try.prog 13 #[.agg #[.int .i64 m.dx, .int .i64 m.dy, .int .i64 m.t, .bool m.f], .agg #[.int .i64 w, .int .i64 h, .slice A n c]] W fun e W' => ∃ A', e = .returned (.tuple #[.agg #[.int .i64 w, .int .i64 h, .slice A' n n], .int .i64 0]) ∧ Il W' (.slice A' n n) (apl w h m l n) ∧ Fr W.heap.size (.slice A' n n) ∧ Below W.heap.size W W' := by
  have Hv := Lib.hid hv; clear hv
  have Hm := Lib.hid hm; clear hm
  have Hl := Lib.hid hl; clear hl
  go_enter Try.func13, Try.ntmps13
  go_wp2_with fail
  have q0 := q4_a1 W (.int .i64 m.dx) (.int .i64 m.dy) (.int .i64 m.t) (.bool m.f) 31 (.cells #[.int .i64 w, .int .i64 h, .slice A n c] 27) (.cells #[.int .i64 0, .int .i64 0, .slice none 0 0] 27)
  have q1 : Q3 (((W.alloc (.cells #[.int .i64 m.dx, .int .i64 m.dy, .int .i64 m.t, .bool m.f] 31)).alloc (.cells #[.int .i64 w, .int .i64 h, .slice A n c] 27)).alloc (.cells #[.int .i64 0, .int .i64 0, .slice none 0 0] 27)) (W.heap.size + 1) (.int .i64 w) (.int .i64 h) (.slice A n c) := by
    refine ⟨?_, ?_, ?_⟩ <;> (rw [World.cell?_alloc_past _ _ _ (by simp), World.cell?_alloc_at _ _ _ _ (by simp)]; rfl)
  have q2 : TB (((W.alloc (.cells #[.int .i64 m.dx, .int .i64 m.dy, .int .i64 m.t, .bool m.f] 31)).alloc (.cells #[.int .i64 w, .int .i64 h, .slice A n c] 27)).alloc (.cells #[.int .i64 0, .int .i64 0, .slice none 0 0] 27)) (W.heap.size + 1 + 1) := by
    have := heap_alloc_new ((W.alloc (.cells #[.int .i64 m.dx, .int .i64 m.dy, .int .i64 m.t, .bool m.f] 31)).alloc (.cells #[.int .i64 w, .int .i64 h, .slice A n c] 27)) (.cells #[.int .i64 0, .int .i64 0, .slice none 0 0] 27)
    simp only [World.size_alloc] at this
    exact ⟨_, _, _, _, this⟩
  have bb := al3 W (.cells #[.int .i64 m.dx, .int .i64 m.dy, .int .i64 m.t, .bool m.f] 31) (.cells #[.int .i64 w, .int .i64 h, .slice A n c] 27) (.cells #[.int .i64 0, .int .i64 0, .slice none 0 0] 27)
  have zz : (((W.alloc (.cells #[.int .i64 m.dx, .int .i64 m.dy, .int .i64 m.t, .bool m.f] 31)).alloc (.cells #[.int .i64 w, .int .i64 h, .slice A n c] 27)).alloc (.cells #[.int .i64 0, .int .i64 0, .slice none 0 0] 27)).heap.size = W.heap.size + 1 + 1 + 1 := by simp
  generalize (((W.alloc (.cells #[.int .i64 m.dx, .int .i64 m.dy, .int .i64 m.t, .bool m.f] 31)).alloc (.cells #[.int .i64 w, .int .i64 h, .slice A n c] 27)).alloc (.cells #[.int .i64 0, .int .i64 0, .slice none 0 0] 27)) = W3 at *
  have zle : W.heap.size + 1 + 1 + 1 ≤ W3.heap.size := by omega
  have BB := Lib.hid bb; clear bb zz
  have Q2 := Lib.hid q2; clear q2
  obtain ⟨m0, m1, m2, m3⟩ := q0
  obtain ⟨s0, s1, s2⟩ := q1
  have ks : ∀ Y, Ext W3 Y → Y.cell? ⟨W.heap.size, 0, none⟩ = some (.int .i64 m.dx) ∧ Y.cell? ⟨W.heap.size, 1, none⟩ = some (.int .i64 m.dy) ∧ Y.cell? ⟨W.heap.size, 2, none⟩ = some (.int .i64 m.t) ∧ Y.cell? ⟨W.heap.size, 3, none⟩ = some (.bool m.f) ∧ Y.cell? ⟨W.heap.size + 1, 0, none⟩ = some (.int .i64 w) ∧ Y.cell? ⟨W.heap.size + 1, 1, none⟩ = some (.int .i64 h) ∧ Y.cell? ⟨W.heap.size + 1, 2, none⟩ = some (.slice A n c) :=
    fun Y h => ⟨keepAt h (by omega) m0, keepAt h (by omega) m1, keepAt h (by omega) m2, keepAt h (by omega) m3, keepAt h (by omega) s0, keepAt h (by omega) s1, keepAt h (by omega) s2⟩
  have KS := Lib.hid ks; clear ks
  go_region_held3 (fun w' => w'.cell? ⟨W.heap.size, 0, none⟩ = some (.int .i64 m.dx) ∧ w'.cell? ⟨W.heap.size, 1, none⟩ = some (.int .i64 m.dy) ∧ w'.cell? ⟨W.heap.size, 2, none⟩ = some (.int .i64 m.t) ∧ w'.cell? ⟨W.heap.size, 3, none⟩ = some (.bool m.f) ∧ w'.cell? ⟨W.heap.size + 1, 0, none⟩ = some (.int .i64 w) ∧ w'.cell? ⟨W.heap.size + 1, 1, none⟩ = some (.int .i64 h) ∧ w'.cell? ⟨W.heap.size + 1, 2, none⟩ = some (.slice A n c))
    (first | with_reducible exact ⟨m0, m1, m2, m3, s0, s1, s2⟩ | (refine KS.out _ ?_; with_reducible (repeat (first | exact Ext.refl _ | refine Ext.drw ?_ | refine Ext.trans ?_ hx3 | refine Ext.trans ?_ hx2 | refine Ext.trans ?_ hx1))))
    (first | (go_at_call 16; refine (validS_is Hv.out _ (Hl.out.below (nx BB.out (Ext.drw (Ext.refl _))))).mono ?_; rintro e w1 ⟨rfl, hx1⟩; have bl1 : Ext W3 w1 := Ext.trans (Ext.drw (Ext.refl _)) hx1; have z1 := bl1.size) | (go_at_call 50; refine (sizeOf_is w h A n c _).mono ?_; rintro e w2 ⟨rfl, hx2⟩; have bl2 : Ext W3 w2 := bl1.trans hx2; have z2 := bl2.size) | (go_at_call 51; refine (has_is Hm.out _).mono ?_; rintro e w3 ⟨rfl, hx3b⟩; have hx3 : Ext w2 w3 := hx3b; have bl3 : Ext W3 w3 := bl2.trans hx3; have z3 := bl3.size))
  obtain ⟨n0, n1, n2, n3, t0, t1, t2⟩ := KS.out _ bl3
  go_wp2_with fail
  refine (applied_any m w h A n c l _ Hv.out Hm.out (Hl.out.below (nx BB.out bl3))).mono ?_
  rintro e w4 ⟨A', rfl, hil, hfr, hx4⟩
  have bl4 : Ext W3 w4 := bl3.trans hx4
  have IL := Lib.hid hil
  have FR := Lib.hid hfr
  have z3' := bl3.size
  clear hil hfr hx4 n0 n1 n2 n3 t0 t1 t2 m0 m1 m2 m3 s0 s1 s2
  have HTB := Lib.hid (Q2.out.ext bl4)
  obtain ⟨⟨_, _, _, r0, r1, r2⟩, rf⟩ := (Q2.out.ext bl4).facts
  have zz := bl4.size
  go_wp2
  refine bodyPost_ret (v := .tuple #[.agg #[.int .i64 w, .int .i64 h, .slice A' n n], .int .i64 0]) (by simp [results, Try.results13, go_sem, r0, r1, r2]) rfl ⟨A', rfl, ?_, ?_, ?_⟩
  · exact ((IL.out.far FR.out (by omega)).far FR.out (by omega)).far FR.out (by omega)
  · exact fun a n' c' e => Nat.le_trans (by omega) (FR.out a n' c' e)
  · exact sc (sc (sc (nx BB.out bl4) (by omega) _) (by omega) _) (by omega) _

end Go.Proofs.Ytgjanbgehbpciaa
