/- Walks: after. -/
import Derived.Test.YtgjanbgehbpciaaV2
import Derived.StillTailTactics
import Derived.Deep.RegionHeld3
namespace Go.Proofs.Ytgjanbgehbpciaa
open Go.RowKit

theorem bcell {B : Nat} {W w1 : World} (hb : Below B W w1) : (∀ b o, b < B → w1.cell? ⟨b, o, none⟩ = W.cell? ⟨b, o, none⟩) ∧ (∀ b o, b < B → w1.frozen? ⟨b, o, none⟩ = W.frozen? ⟨b, o, none⟩) :=
  ⟨fun b o h => hb.cell (p := ⟨b, o, none⟩) h, fun b o h => hb.frozen (p := ⟨b, o, none⟩) h⟩

theorem nx {W w1 w2 : World} (h : Below W.heap.size W w1) (h2 : Below w1.heap.size w1 w2) : Below W.heap.size W w2 := h.trans (h2.mono h.size)
theorem al {W w1 : World} (h : Below W.heap.size W w1) (o : Obj) : Below W.heap.size W (w1.alloc o) := nx h (below1 _ _)
theorem sc {W w1 : World} (h : Below W.heap.size W w1) {g i : Nat} (hg : W.heap.size ≤ g) (v : Value) : Below W.heap.size W (w1.setCell ⟨g, i, none⟩ v) := h.setCell (p := ⟨g, i, none⟩) hg v
theorem sc4 {W w1 : World} (h : Below W.heap.size W w1) {g i j k l : Nat} (hg : W.heap.size ≤ g) (a b c d : Value) :
    Below W.heap.size W ((((w1.setCell ⟨g, i, none⟩ a).setCell ⟨g, j, none⟩ b).setCell ⟨g, k, none⟩ c).setCell ⟨g, l, none⟩ d) := sc (sc (sc (sc h hg a) hg b) hg c) hg d
theorem al1 (W : World) (o1 : Obj) : Below W.heap.size W (W.alloc o1) := below1 W o1
theorem al2 (W : World) (o1 o2 : Obj) : Below W.heap.size W ((W.alloc o1).alloc o2) := al (al1 W o1) o2
theorem al3 (W : World) (o1 o2 o3 : Obj) : Below W.heap.size W (((W.alloc o1).alloc o2).alloc o3) := al (al2 W o1 o2) o3
theorem al4 (W : World) (o1 o2 o3 o4 : Obj) : Below W.heap.size W ((((W.alloc o1).alloc o2).alloc o3).alloc o4) := al (al3 W o1 o2 o3) o4
theorem al5 (W : World) (o1 o2 o3 o4 o5 : Obj) : Below W.heap.size W (((((W.alloc o1).alloc o2).alloc o3).alloc o4).alloc o5) := al (al4 W o1 o2 o3 o4) o5

set_option maxHeartbeats 1000000 in
set_option maxRecDepth 100000 in
theorem after_c (w h : Int) (adx ady : Int) (n : Nat) (af : Bool) (bdx bdy : Int) (k : Nat) (bf : Bool) (W : World) (hs : 1 ≤ w ∧ w ≤ 8 ∧ 1 ≤ h ∧ h ≤ 8)
    (ha : 0 ≤ adx ∧ adx < w ∧ 0 ≤ ady ∧ ady < h) (hn : n < 4) (hb : 0 ≤ bdx ∧ bdx < w ∧ 0 ≤ bdy ∧ bdy < h) (hk : k < 4) :
    Calls Try.prog 55 #[.agg #[.int .i64 w, .int .i64 h], .agg #[.int .i64 adx, .int .i64 ady, .int .i64 n, .bool af], .agg #[.int .i64 bdx, .int .i64 bdy, .int .i64 k, .bool bf]] W fun e W' =>
      e = .returned (.agg #[.int .i64 (((spin af n (bdx, bdy)).1 + adx) % w), .int .i64 (((spin af n (bdx, bdy)).2 + ady) % h), .int .i64 (tsum af n k), .bool (af != bf)]) ∧ Below W.heap.size W W' := by
  have hbd := spin_bd (f := af) (t := n) (by omega) (by omega) (x := bdx) (y := bdy) (B := 1000) (by omega) (by omega) (by omega) (by omega)
  simp only [Int.toNat_natCast] at hbd
  have hc := fun W => moved_any adx ady n af bdx bdy W hn (by omega) (by omega) (by omega) (by omega) (by omega) (by omega) (by omega) (by omega)
  obtain ⟨p, hp⟩ : ∃ p, p = (spin af n (bdx, bdy)).1 := ⟨_, rfl⟩
  obtain ⟨q, hq⟩ : ∃ q, q = (spin af n (bdx, bdy)).2 := ⟨_, rfl⟩
  rw [← hp, ← hq] at hbd ⊢
  have Hp := Lib.hid hp; have Hq := Lib.hid hq
  have HC := Lib.hid hc
  clear hp hq hc
  cases af
  · have ht : tsum false n k = ((n : Int) + k) % 4 := rfl
    rw [ht]
    clear ht
    go_enter Try.func55, Try.ntmps55
    go_wp2_with fail
    refine (HC.out _).mono ?_
    rintro e w1 ⟨rfl, hb1⟩
    rw [← Hp.out, ← Hq.out]
    have s1 : IntKind.i64.wrap (((n : Int) + k)) = ((n : Int) + k) := IntWalk.i64_in _ (by omega)
    obtain ⟨c, f⟩ := bcell hb1
    have z := hb1.size
    simp only [World.size_alloc] at z c f
    have Hb := Lib.hid (nx (al4 W _ _ _ _) hb1); clear hb1
    clear Hp Hq HC
    go_wp2_with fail
    go_still_tail 19, (by kernel_rfl)
    still_call ((modulo_any _ _ _ (by omega) (by omega) (by omega) (by omega)).mono (fun _ _ h => ⟨h.1, h.2.symm⟩))
    repeat still_step
    still_call ((modulo_any _ _ _ (by omega) (by omega) (by omega) (by omega)).mono (fun _ _ h => ⟨h.1, h.2.symm⟩))
    repeat still_step
    still_call ((modulo_any _ _ _ (by omega) (by omega) (by omega) (by omega)).mono (fun _ _ h => ⟨h.1, h.2.symm⟩))
    repeat still_step
    refine wpStill_nil ?_
    go_wp2
    refine bodyPost_ret (v := .agg #[.int .i64 ((p + adx) % w), .int .i64 ((q + ady) % h), .int .i64 (((n : Int) + k) % 4), .bool (false != bf)]) (by simp [results, Try.results55, go_sem, c, f, z]) rfl ⟨rfl, ?_⟩
    exact (sc4 Hb.out (by omega) _ _ _ _).drew
  · have ht : tsum true n k = ((n : Int) + -k) % 4 := rfl
    rw [ht]
    clear ht
    go_enter Try.func55, Try.ntmps55
    go_wp2_with fail
    refine (HC.out _).mono ?_
    rintro e w1 ⟨rfl, hb1⟩
    rw [← Hp.out, ← Hq.out]
    have s1 : IntKind.i64.wrap (((n : Int) + -k)) = ((n : Int) + -k) := IntWalk.i64_in _ (by omega)
    obtain ⟨c, f⟩ := bcell hb1
    have z := hb1.size
    simp only [World.size_alloc] at z c f
    have Hb := Lib.hid (nx (al4 W _ _ _ _) hb1); clear hb1
    clear Hp Hq HC
    go_wp2_with fail
    go_still_tail 19, (by kernel_rfl)
    still_call ((modulo_any _ _ _ (by omega) (by omega) (by omega) (by omega)).mono (fun _ _ h => ⟨h.1, h.2.symm⟩))
    repeat still_step
    still_call ((modulo_any _ _ _ (by omega) (by omega) (by omega) (by omega)).mono (fun _ _ h => ⟨h.1, h.2.symm⟩))
    repeat still_step
    still_call ((modulo_any _ _ _ (by omega) (by omega) (by omega) (by omega)).mono (fun _ _ h => ⟨h.1, h.2.symm⟩))
    repeat still_step
    refine wpStill_nil ?_
    go_wp2
    refine bodyPost_ret (v := .agg #[.int .i64 ((p + adx) % w), .int .i64 ((q + ady) % h), .int .i64 (((n : Int) + -k) % 4), .bool (true != bf)]) (by simp [results, Try.results55, go_sem, c, f, z]) rfl ⟨rfl, ?_⟩
    exact (sc4 Hb.out (by omega) _ _ _ _).drew

theorem mv_eta (m : Mv) : m = ⟨m.dx, m.dy, m.t, m.f⟩ := by cases m; rfl

/-- after -/
theorem after_any (w h : Int) (a b : Mv) (W : World) (hs : okSize w h = true) (ha : has w h a = true) (hb : has w h b = true) :
    Calls Try.prog 55 #[.agg #[.int .i64 w, .int .i64 h], .agg #[.int .i64 a.dx, .int .i64 a.dy, .int .i64 a.t, .bool a.f], .agg #[.int .i64 b.dx, .int .i64 b.dy, .int .i64 b.t, .bool b.f]] W fun e W' =>
      e = .returned (.agg #[.int .i64 (aft w h a b).dx, .int .i64 (aft w h a b).dy, .int .i64 (aft w h a b).t, .bool (aft w h a b).f]) ∧ Below W.heap.size W W' := by
  rw [okSize_iff] at hs
  rw [has_iff] at ha hb
  obtain ⟨adx, ady, at', af⟩ := a
  obtain ⟨bdx, bdy, bt, bf⟩ := b
  simp only at ha hb ⊢
  obtain ⟨n, rfl⟩ : ∃ n : Nat, at' = n := ⟨at'.toNat, by omega⟩
  obtain ⟨k, rfl⟩ : ∃ k : Nat, bt = k := ⟨bt.toNat, by omega⟩
  exact after_c w h adx ady n af bdx bdy k bf W hs (by omega) (by omega) (by omega) (by omega)

end Go.Proofs.Ytgjanbgehbpciaa
