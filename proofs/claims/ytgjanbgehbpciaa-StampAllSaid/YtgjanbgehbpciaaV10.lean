/- Walks: goals. -/
import Derived.Test.YtgjanbgehbpciaaV9
namespace Go.Proofs.Ytgjanbgehbpciaa
open Go.RowKit

/-- the goals of the first k cells -/
def gl (w h : Nat) (m : Mv) (k : Nat) : List Int := (List.range k).map (goalAt w h m)
theorem gl_succ (w h : Nat) (m : Mv) (k : Nat) : gl w h m (k + 1) = gl w h m k ++ [goalAt w h m k] := by unfold gl; rw [List.range_succ, List.map_append]; rfl
theorem gl_len (w h : Nat) (m : Mv) (k : Nat) : (gl w h m k).length = k := by simp [gl]
theorem goalAt_at (w h : Nat) (m : Mv) (x y : Nat) (hx : x < w) : goalAt w h m (y * w + x) = ((spin m.f m.t.toNat ((x : Int), (y : Int))).2 + m.dy) % h * w + ((spin m.f m.t.toNat ((x : Int), (y : Int))).1 + m.dx) % w := by
  have e1 : (y * w + x) % w = x := by rw [Nat.mul_comm, Nat.mul_add_mod]; exact Nat.mod_eq_of_lt hx
  have e2 : (y * w + x) / w = y := by rw [Nat.mul_comm, Nat.mul_add_div (by omega), Nat.div_eq_of_lt hx, Nat.add_zero]
  unfold goalAt
  rw [e1, e2]

/-- a slice in a block from B on, or nil -/
def Fr (B : Nat) (v : Value) : Prop := ∀ a n c, v = .slice (some a) n c → B ≤ a.block
theorem fr_own {w : World} {B base : Nat} {e : TypeId} {size : Nat} {v : Value} {n : Nat} {xs : List Value} (hB : B ≤ base) (h : w.ownsRow base e size v n xs) : Fr B v := by
  obtain ⟨h1, h2 | ⟨g, cap, cur, rfl, hg, hh, rest⟩⟩ := h
  · obtain ⟨rfl, _⟩ := h2
    intro a n c e; cases e
  · intro a n c e
    injection e with e1
    injection e1 with e2
    rw [← e2]
    exact Nat.le_trans hB hg

theorem round_mul {y h w : Nat} (hy : y < h) : y * w + w ≤ w * h := by
  have : (y + 1) * w ≤ h * w := Nat.mul_le_mul_right w hy
  rw [Nat.add_mul, Nat.one_mul, Nat.mul_comm h w] at this
  exact this

/-- block g holds these two cells -/
def Q2 (W : World) (g : Nat) (a b : Value) : Prop := W.cell? ⟨g, 0, none⟩ = some a ∧ W.cell? ⟨g, 1, none⟩ = some b

set_option maxHeartbeats 2000000 in
set_option maxRecDepth 100000 in
theorem goals_c (w h : Nat) (dx dy : Int) (n : Nat) (f : Bool) (W : World) (hs : 1 ≤ w ∧ w ≤ 8 ∧ 1 ≤ h ∧ h ≤ 8) (hm : 0 ≤ dx ∧ dx < w ∧ 0 ≤ dy ∧ dy < h) (hn : n < 4) :
    Calls Try.prog 70 #[.agg #[.int .i64 w, .int .i64 h], .agg #[.int .i64 dx, .int .i64 dy, .int .i64 n, .bool f]] W fun e W' =>
      ∃ r, e = .returned r ∧ Il W' r (gl w h ⟨dx, dy, n, f⟩ (w * h)) ∧ Fr W.heap.size r ∧ Below W.heap.size W W' := by
  obtain ⟨i0, hi, hz0, hz1, hz2⟩ := info_parts info3
  have hmul := fun y (hy : y < h) => round_mul (w := w) hy
  have Hmul := Lib.hid hmul; clear hmul
  obtain ⟨N, hN⟩ : ∃ N, N = w * h := ⟨_, rfl⟩
  have hN1 : 1 ≤ N ∧ N ≤ 64 := by
    have := area_in (w := w) (h := h) (okSize_iff.2 (by omega))
    rw [hN]
    have e : ((w * h : Nat) : Int) = (w : Int) * h := by simp
    omega
  have hP : (w : Int) * (h : Int) = (N : Int) := by rw [hN]; simp
  rw [← hN]
  have HN := Lib.hid hN; clear hN
  have hmv := fun (x y : Nat) (hx : x < w) (hy : y < h) W => moved_any dx dy n f x y W hn (by omega) (by omega) (by omega) (by omega) (by omega) (by omega) (by omega) (by omega)
  have hcl := fun (x y : Int) W => cell_any w h x y W (by omega)
  have HMV := Lib.hid hmv; have HCL := Lib.hid hcl; clear hmv hcl
  go_enter Try.func70, Try.ntmps70
  go_wp2_with (refine wpList_make_own _ rfl _ _ 22 rfl (W.heap.size + 1 + 1) 3 i0 (.int .i64 0) 1 Try.underlying22 hi hz0 hz1 .i64 .i64 (N : Int) N rfl rfl rfl ?m1 ?m2 ?m3 ?_)
  case m1 => rw [hz2]; omega
  case m2 => unfold maxLen; omega
  case m3 => simp
  intro w1 hown hgrow
  have q0 : Q2 ((W.alloc (.cells #[.int .i64 w, .int .i64 h] 84)).alloc (.cells #[.int .i64 dx, .int .i64 dy, .int .i64 n, .bool f] 31)) W.heap.size (.int .i64 w) (.int .i64 h) := ⟨by rw [World.cell?_alloc_past _ _ _ (by simp), World.cell?_alloc_new]; rfl, by rw [World.cell?_alloc_past _ _ _ (by simp), World.cell?_alloc_new]; rfl⟩
  have q1 : Q4 ((W.alloc (.cells #[.int .i64 w, .int .i64 h] 84)).alloc (.cells #[.int .i64 dx, .int .i64 dy, .int .i64 n, .bool f] 31)) (W.heap.size + 1) (.int .i64 dx) (.int .i64 dy) (.int .i64 n) (.bool f) := by
    refine ⟨?_, ?_, ?_, ?_⟩ <;> (rw [World.cell?_alloc_at _ _ _ _ (by simp)]; rfl)
  have e1 : Ext ((W.alloc (.cells #[.int .i64 w, .int .i64 h] 84)).alloc (.cells #[.int .i64 dx, .int .i64 dy, .int .i64 n, .bool f] 31)) w1 := (Below.refl _ _).grown hgrow (Nat.le_refl _) (fun k hk => by cases hk)
  have zz : ((W.alloc (.cells #[.int .i64 w, .int .i64 h] 84)).alloc (.cells #[.int .i64 dx, .int .i64 dy, .int .i64 n, .bool f] 31)).heap.size = W.heap.size + 1 + 1 := by simp
  have bb := al2 W (.cells #[.int .i64 w, .int .i64 h] 84) (.cells #[.int .i64 dx, .int .i64 dy, .int .i64 n, .bool f] 31)
  clear hgrow
  generalize ((W.alloc (.cells #[.int .i64 w, .int .i64 h] 84)).alloc (.cells #[.int .i64 dx, .int .i64 dy, .int .i64 n, .bool f] 31)) = W2 at *
  have zle : W.heap.size + 1 + 1 ≤ W2.heap.size := by omega
  have zge : W2.heap.size ≤ W.heap.size + 1 + 1 := by omega
  have BB := Lib.hid bb; clear bb zz
  have Q0 := Lib.hid q0; have Q1 := Lib.hid q1; clear q0 q1
  have k0 := keepAt e1 (by omega) Q0.out.1
  have k1 := keepAt e1 (by omega) Q0.out.2
  go_wp2_with fail
  clear k0 k1
  have hx0 : Hid (w1.ownsRow (W.heap.size + 1 + 1) 3 1 (.slice (some ⟨W.heap.size + 1 + 1, 0, none⟩) 0 N) (0 * w) ((gl w h ⟨dx, dy, n, f⟩ (0 * w)).map iv)) := by rw [Nat.zero_mul]; exact Lib.hid hown
  clear hown
  go_loopw [5, 16] (fun v i wr => ∃ y : Nat, i = .int .i64 y ∧ y ≤ h ∧ Hid (wr.ownsRow (W.heap.size + 1 + 1) 3 1 v (y * w) ((gl w h ⟨dx, dy, n, f⟩ (y * w)).map iv)) ∧ Ext W2 wr) (fun _ i _ => h - (intOf i).toNat)
  case atStart => exact ⟨0, rfl, Nat.zero_le _, hx0, e1⟩
  case round =>
    obtain ⟨y, rfl, hy, hown, ew⟩ := hrel
    clear hx0
    by_cases hlt : y < h
    · have k0 := keepAt ew (by omega) Q0.out.1
      have k1 := keepAt ew (by omega) Q0.out.2
      go_wp2_with fail
      clear k0 k1
      obtain ⟨wo, hwo⟩ : ∃ wo : World, wo = wr := ⟨_, rfl⟩
      subst hwo
      have hown0 : Hid (wo.ownsRow (W.heap.size + 1 + 1) 3 1 u5 (y * w + 0) ((gl w h ⟨dx, dy, n, f⟩ (y * w + 0)).map iv)) := hown
      go_loopw [5, 21] (fun v i wr => ∃ x : Nat, i = .int .i64 x ∧ x ≤ w ∧ Hid (wr.ownsRow (W.heap.size + 1 + 1) 3 1 v (y * w + x) ((gl w h ⟨dx, dy, n, f⟩ (y * w + x)).map iv)) ∧ Ext W2 wr) (fun _ i _ => w - (intOf i).toNat)
      case atStart => exact ⟨0, rfl, Nat.zero_le _, hown0, ew⟩
      case round =>
        obtain ⟨x, rfl, hx, hownx, ex⟩ := hrel
        clear hown hown0 ew
        by_cases hxl : x < w
        · go_wp2_with fail
          have gat := goalAt_at w h ⟨dx, dy, n, f⟩ x y hxl
          have gsu := gl_succ w h ⟨dx, dy, n, f⟩ (y * w + x)
          obtain ⟨g, hg⟩ : ∃ g, g = goalAt w h ⟨dx, dy, n, f⟩ (y * w + x) := ⟨_, rfl⟩
          rw [← hg] at gat gsu
          have GSU := Lib.hid gsu
          have hbd := spin_bd (f := f) (t := n) (by omega) (by omega) (x := (x : Int)) (y := (y : Int)) (B := 1000) (by omega) (by omega) (by omega) (by omega)
          simp only [Int.toNat_natCast] at hbd gat
          have hmx := HMV.out x y hxl hlt
          obtain ⟨p, hp⟩ : ∃ p, p = (spin f n ((x : Int), (y : Int))).1 + dx := ⟨_, rfl⟩
          obtain ⟨q, hq⟩ : ∃ q, q = (spin f n ((x : Int), (y : Int))).2 + dy := ⟨_, rfl⟩
          have hpb : -10000 ≤ p ∧ p ≤ 10000 := by omega
          have hqb : -10000 ≤ q ∧ q ≤ 10000 := by omega
          simp only [← hp, ← hq] at hmx gat
          have HMX : Hid (∀ W, Calls Try.prog 79 #[.agg #[.int .i64 dx, .int .i64 dy, .int .i64 n, .bool f], .int .i64 x, .int .i64 y] W fun e W' => e = .returned (.tuple #[.int .i64 p, .int .i64 q]) ∧ Ext W W') := Lib.hid hmx
          have HCX : Hid (∀ W, Calls Try.prog 89 #[.agg #[.int .i64 w, .int .i64 h], .int .i64 p, .int .i64 q] W fun e W' => e = .returned (.int .i64 g) ∧ Ext W W') := Lib.hid (fun W => (HCL.out p q W hpb.1 hpb.2 hqb.1 hqb.2).mono (fun _ _ k => ⟨by rw [gat]; exact k.1, k.2⟩))
          clear hmx gat hg gsu hbd hp hq
          have K0 := Lib.hid (keepAt ex (by omega) Q0.out.1); have K1 := Lib.hid (keepAt ex (by omega) Q0.out.2)
          obtain ⟨a0, a1, a2, a3⟩ := Q1.out
          have J0 := Lib.hid (keepAt ex (by omega) a0); have J1 := Lib.hid (keepAt ex (by omega) a1); have J2 := Lib.hid (keepAt ex (by omega) a2); have J3 := Lib.hid (keepAt ex (by omega) a3)
          clear a0 a1 a2 a3
          have zx := ex.size
          refine wp_region_noPanic ?_
          refine wp_split (S := fun X => Ext wr X) 10 (by kernel_rfl) (by kernel_rfl) (Ext.drw (Ext.refl _)) ?_
          simp only [List.take_succ_cons, List.take_zero, List.drop_succ_cons, List.drop_zero]
          refine wpAnyH_take (i := 0) (v := u5) rfl (by kernel_rfl) (by kernel_rfl) (by kernel_rfl) (fun _ _ _ h => h) (Or.inl ⟨by rfl, fun w' hSw => ?_⟩) (Ext.drw (Ext.refl _)) ?_
          · skip
            clear hSw
            go_simp
            all_goals (with_reducible rfl)
          try simp only [Act.put, List.setIfInBounds_toArray, List.set_cons_zero, List.set_cons_succ]
          refine wpAnyH_take (i := 1) (v := .agg #[.int .i64 w, .int .i64 h]) rfl (by kernel_rfl) (by kernel_rfl) (by kernel_rfl) (fun _ _ _ h => h) (Or.inl ⟨by rfl, fun w' hSw => ?_⟩) (Ext.drw (Ext.refl _)) ?_
          · have q0 := keepAt hSw (by omega) K0.out
            have q1 := keepAt hSw (by omega) K1.out
            clear hSw
            go_simp
            all_goals (with_reducible rfl)
          try simp only [Act.put, List.setIfInBounds_toArray, List.set_cons_zero, List.set_cons_succ]
          refine wpAnyH_take (i := 2) (v := .agg #[.int .i64 dx, .int .i64 dy, .int .i64 n, .bool f]) rfl (by kernel_rfl) (by kernel_rfl) (by kernel_rfl) (fun _ _ _ h => h) (Or.inl ⟨by rfl, fun w' hSw => ?_⟩) (Ext.drw (Ext.refl _)) ?_
          · have q0 := keepAt hSw (by omega) J0.out
            have q1 := keepAt hSw (by omega) J1.out
            have q2 := keepAt hSw (by omega) J2.out
            have q3 := keepAt hSw (by omega) J3.out
            clear hSw
            go_simp
            all_goals (with_reducible rfl)
          try simp only [Act.put, List.setIfInBounds_toArray, List.set_cons_zero, List.set_cons_succ]
          refine wpAnyH_take (i := 3) (v := .int .i64 x) rfl (by kernel_rfl) (by kernel_rfl) (by kernel_rfl) (fun _ _ _ h => h) (Or.inl ⟨by rfl, fun w' hSw => ?_⟩) (Ext.drw (Ext.refl _)) ?_
          · skip
            clear hSw
            go_simp
            all_goals (with_reducible rfl)
          try simp only [Act.put, List.setIfInBounds_toArray, List.set_cons_zero, List.set_cons_succ]
          refine wpAnyH_take (i := 4) (v := .int .i64 y) rfl (by kernel_rfl) (by kernel_rfl) (by kernel_rfl) (fun _ _ _ h => h) (Or.inl ⟨by rfl, fun w' hSw => ?_⟩) (Ext.drw (Ext.refl _)) ?_
          · skip
            clear hSw
            go_simp
            all_goals (with_reducible rfl)
          try simp only [Act.put, List.setIfInBounds_toArray, List.set_cons_zero, List.set_cons_succ]
          refine wpAnyH_ready (rs := [5]) (by kernel_rfl) (by simp) ?_
          refine AllReadyH.cons rfl (fun K hK => ?_) AllReadyH.nil
          go_simp
          refine (HMX.out _).mono ?_
          rintro e v5 ⟨rfl, hb5⟩
          have e5 : Ext wr v5 := (Ext.drw (Ext.refl _)).trans hb5
          try go_wp2_with fail
          refine hK.out _ _ e5 (fun _ => ?_)
          clear hK K
          try simp only [Act.put, List.setIfInBounds_toArray, List.set_cons_zero, List.set_cons_succ]
          refine wpAnyH_take (i := 6) (v := .int .i64 p) rfl (by kernel_rfl) (by kernel_rfl) (by kernel_rfl) (fun _ _ _ h => h) (Or.inl ⟨by rfl, fun w' hSw => ?_⟩) (e5) ?_
          · skip
            clear hSw
            go_simp
            all_goals (with_reducible rfl)
          try simp only [Act.put, List.setIfInBounds_toArray, List.set_cons_zero, List.set_cons_succ]
          refine wpAnyH_take (i := 7) (v := .int .i64 q) rfl (by kernel_rfl) (by kernel_rfl) (by kernel_rfl) (fun _ _ _ h => h) (Or.inl ⟨by rfl, fun w' hSw => ?_⟩) (e5) ?_
          · skip
            clear hSw
            go_simp
            all_goals (with_reducible rfl)
          try simp only [Act.put, List.setIfInBounds_toArray, List.set_cons_zero, List.set_cons_succ]
          refine wpAnyH_ready (rs := [8]) (by kernel_rfl) (by simp) ?_
          refine AllReadyH.cons rfl (fun K hK => ?_) AllReadyH.nil
          go_simp
          refine (HCX.out _).mono ?_
          rintro e v8 ⟨rfl, hb8⟩
          have e8 : Ext wr v8 := (e5).trans hb8
          try go_wp2_with fail
          refine hK.out _ _ e8 (fun _ => ?_)
          clear hK K
          try simp only [Act.put, List.setIfInBounds_toArray, List.set_cons_zero, List.set_cons_succ]
          refine wpAnyH_ready (rs := [9]) (by kernel_rfl) (by simp) ?_
          refine AllReadyH.cons rfl (fun K hK => ?_) AllReadyH.nil
          go_simp
          refine hK.out _ _ (e8.alc _) (fun _ => ?_)
          clear hK K
          try simp only [Act.put, List.setIfInBounds_toArray, List.set_cons_zero, List.set_cons_succ]
          refine wpAnyH_done (by kernel_rfl) ?_ _
          refine cut_normal ?_
          have hb64 : y * w + x + 1 ≤ 64 := by have := Hmul.out y hlt; have := HN.out; omega
          have HB64 := Lib.hid hb64
          have hown8 := (World.ownsRow.ext hownx.out e8).alloc (.cells #[.int .i64 g] 3)
          clear K0 K1 J0 J1 J2 J3 HMX HCX
          refine wpList_append_own _ rfl _ _ 22 rfl (W.heap.size + 1 + 1) 3 i0 (.int .i64 0) 1 8 Try.underlying22 hi hz0 hz1 hz2 rfl (by decide) _ _ _ rfl hown8 ⟨v8.heap.size, 0, none⟩ 1 1 [iv g] rfl rfl ?c1 ?c2 ?c3 ?c4 ?c5 ?_
          case c1 =>
            intro j u hj
            match j, hj with
            | 0, hj => simp at hj; subst hj; simp [Addr.add, iv]
          case c2 => intro u hu; simp at hu; subst hu; rfl
          case c3 => unfold maxLen; omega
          case c4 => omega
          case c5 => have := ex.size; have := e8.size; simp; omega
          intro v' w9 hown' hgrow _
          have e9 : Ext W2 w9 := Below.grown ((ex.trans e8).alc (.cells #[.int .i64 g] 3)) hgrow (by have := ex.size; have := e8.size; simp; omega) (fun k hk => by have := (hown8.lt k hk).1; omega)
          have ho9 : Hid (w9.ownsRow (W.heap.size + 1 + 1) 3 1 v' (y * w + x + 1) ((gl w h ⟨dx, dy, n, f⟩ (y * w + x + 1)).map iv)) := by
            rw [GSU.out, List.map_append]; exact Lib.hid hown'
          clear hown' hgrow hown8 e8 e5 hb64
          go_wp2_with fail
          refine NoPanic.normal ?_
          go_wp2
          go_roundw
          case rel => exact ⟨x + 1, by go_num, by omega, ho9, e9⟩
          case measure => simp [intOf]; omega
        · obtain rfl : x = w := by omega
          have ho9 : Hid (wr.ownsRow (W.heap.size + 1 + 1) 3 1 u5 ((y + 1) * x) ((gl x h ⟨dx, dy, n, f⟩ ((y + 1) * x)).map iv)) := by
            rw [Nat.add_mul, Nat.one_mul]; exact hownx
          clear hownx
          go_wp2
          go_roundw
          case rel => exact ⟨y + 1, by go_num, by omega, ho9, ex⟩
          case measure => simp [intOf]; omega
    · obtain rfl : y = h := by omega
      have ho9 : Hid (wr.ownsRow (W.heap.size + 1 + 1) 3 1 u5 N ((gl w y ⟨dx, dy, n, f⟩ N).map iv)) := by
        rw [HN.out, Nat.mul_comm w y]; exact hown
      clear hown
      have hil : Hid (Il wr u5 (gl w y ⟨dx, dy, n, f⟩ N)) := Lib.hid (Il.of_own (base := W.heap.size + 1 + 1) (by rw [gl_len]; exact ho9.out))
      have hfr : Hid (Fr W.heap.size u5) := Lib.hid (fr_own (Nat.le_trans (Nat.le_succ _) (Nat.le_succ _)) ho9.out)
      go_wp2
      go_ret
      exact ⟨_, rfl, hil.out, hfr.out, nx BB.out ew⟩

end Go.Proofs.Ytgjanbgehbpciaa
