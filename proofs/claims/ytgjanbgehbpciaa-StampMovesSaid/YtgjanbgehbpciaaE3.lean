/- Walks: Collect of the moves; Moves. -/
import Derived.Test.YtgjanbgehbpciaaE2
import Derived.Test.YtgjanbgehbpciaaB1
import Derived.Maps.AppendAt
namespace Go.Proofs.Ytgjanbgehbpciaa
open Go.RowKit Go.Shelf
attribute [local go_sem] Oper.semAt_some

theorem moves1_stops (n w h : Nat) (hn : 1 ≤ n) (hs : okSize w h = true) (Bz n₀ NN : Nat) (hNNe : NN = pos w h 2 0 0 0) (w0 : World) (hBz : Bz < n₀) (hle : n₀ ≤ w0.heap.size) (hz : C2 w0 Bz (.int .i64 w) (.int .i64 h)) :
    SeqStopsK Fence.wide n Try.prog 83 #[.pointer (some ⟨Bz, 0, none⟩)] (fun m => #[mvV m]) (Below n₀) (fun xs => xs = mvs w h NN) (fun _ => True) NN w0 :=
  fun l J Jx W hb hJ _ hY h0 => moves1_in n w h hn hs l Bz n₀ NN hNNe J Jx W.heap.size hJ hY W hBz
    ⟨(hb.cell (p := ⟨Bz, 0, none⟩) (show Bz < w0.heap.size by omega)).trans hz.1, (hb.cell (p := ⟨Bz, 1, none⟩) (show Bz < w0.heap.size by omega)).trans hz.2⟩ (Nat.le_trans hle hb.size) h0

/-- block B is this move -/
def Bm (W : World) (B : Nat) (m : Mv) : Prop := W.heap[B]? = some (.cells #[.int .i64 m.dx, .int .i64 m.dy, .int .i64 m.t, .bool m.f] 31 (0, 0))
theorem Bm.lt {W : World} {B : Nat} {m : Mv} (h : Bm W B m) : B < W.heap.size := (Array.getElem?_eq_some_iff.1 h).1
theorem Bm.cells {W : World} {B : Nat} {m : Mv} (h : Bm W B m) : Q4 W B (.int .i64 m.dx) (.int .i64 m.dy) (.int .i64 m.t) (.bool m.f) :=
  ⟨cell_of_row W B 0 _ 31 (0, 0) h, cell_of_row W B 1 _ 31 (0, 0) h, cell_of_row W B 2 _ 31 (0, 0) h, cell_of_row W B 3 _ 31 (0, 0) h⟩
theorem Bm.own (B b : Nat) (m : Mv) : OwnFrom b (fun (_ : Unit) W => Bm W B m) := fun _ X Y row hs hg hr =>
  (hg.block B (Bm.lt hs) (fun e => by
    obtain ⟨_, o, ho, hc⟩ := hr B e.symm
    unfold Bm at hs
    rw [hs] at ho; cases ho; cases hc)).trans hs

set_option maxRecDepth 100000 in
set_option maxHeartbeats 4000000 in
theorem appendSeq_in (n w h : Nat) (hn : 3 ≤ n) (hs : okSize w h = true) (Bz NN : Nat) (hNNe : NN = pos w h 2 0 0 0) (W : World) (hBz : Bz < W.heap.size) (hz : C2 W Bz (.int .i64 w) (.int .i64 h)) :
    CallsIn Fence.wide n Try.prog 82 #[.slice none 0 0, .func (.func 83) #[] #[.pointer (some ⟨Bz, 0, none⟩)]] W fun e W' => ∃ v, e = .returned v ∧ W'.ownsRow W.heap.size 31 4 v (mvs w h NN).length ((mvs w h NN).flatMap mc) ∧ Ext W W' := by
  have hs' := okSize_iff.1 hs
  have hNN := pos2_bd (w := w) (h := h) (by omega) (by omega)
  rw [← hNNe] at hNN
  obtain ⟨i0, hi, hz0, hz1, hz2⟩ := info_parts info31
  have h1 : 1 ≤ n := by omega
  refine callsIn_of_wp_marks Try.func82 rfl trivial ?_ rfl
  simp only [Try.ntmps82, List.size_toArray, List.length_cons, List.length_nil, Nat.reduceAdd, Nat.reduceSub, Array.replicate_succ, Array.replicate_zero, List.push_toArray, List.append_toArray, List.nil_append, List.cons_append]
  gi_wp2
  have bS := Boxed.new W 51 (.slice none 0 0)
  have hB0 : Below W.heap.size W (W.alloc (.cells #[.slice none 0 0] 51)) := (Below.refl _ W).alloc (Nat.le_refl _) _
  have hsz : (W.alloc (.cells #[.slice none 0 0] 51)).heap.size = W.heap.size + 1 := by simp
  have hz9 : C2 (W.alloc (.cells #[.slice none 0 0] 51)) Bz (.int .i64 w) (.int .i64 h) := hz.ext hBz ((Ext.refl W).alc _)
  obtain ⟨W0, hW0⟩ : ∃ W0, W.alloc (.cells #[.slice none 0 0] 51) = W0 := ⟨_, rfl⟩
  rw [hW0] at bS hB0 hsz hz9 ⊢
  clear hW0
  refine wpIn_rangeFunc_ownH rfl h1 (gf := 83) (lb := #[.pointer (some ⟨Bz, 0, none⟩)]) rfl trivial (enters_of Try.func83 (by kernel_rfl) rfl)
    (moves1_stops (n - 1) w h (by omega) hs Bz W.heap.size NN hNNe W0 hBz (by omega) hz9) belowK_t (belowK_b (by omega)) (Below.refl _ _) (fun _ => rfl)
    (fun pre X => (∃ v, Boxed X W.heap.size 51 v ∧ X.ownsRow W.heap.size 31 4 v pre.length (pre.flatMap mc) ∧ True) ∧ Below W.heap.size W X)
    (fun _ _ _ => False)
    (OwnFrom.and (Own.from (holdsRow_own W.heap.size W.heap.size 51 31 4 (fun pre : List Mv => pre.length) (fun pre : List Mv => pre.flatMap mc) (fun _ _ => True)) _) (ownFrom_below (Nat.le_refl _) (by omega)))
    (fun _ _ _ _ _ hs _ _ => hs)
    ⟨⟨_, bS, ⟨rfl, .inl ⟨rfl, rfl⟩⟩, True.intro⟩, hB0⟩
    (fun x a' X => ∃ Bx, W.heap.size < Bx ∧ Bm X Bx x ∧ a' = { tmps := #[.slice none 0 0, .func (.func 83) #[] #[.pointer (some ⟨Bz, 0, none⟩)], .pointer (some ⟨W.heap.size, 0, none⟩), undef, .slice none 0 0, .pointer (some ⟨Bx, 0, none⟩), .func (.func 83) #[] #[.pointer (some ⟨Bz, 0, none⟩)], mvV x, undef, undef, undef, undef, undef], defers := [] })
    (fun x a' _ X Y row hs hg hr => by obtain ⟨Bx, h1, h2, h3⟩ := hs; exact ⟨Bx, h1, Bm.own Bx _ x () X Y row h2 hg hr, h3⟩)
    ?assign ?body ?done ?stop
  case assign =>
    rintro l pre x X K ⟨⟨v, bv, hrow, _⟩, hB⟩ hK
    unfold mvV
    gi_wp2
    exact hK _ _ ((KeepsOthers.alloc _ _).from _) ((Below.refl _ X).alloc hB.size _) ⟨⟨v, bv.alloc _, hrow.alloc _, True.intro⟩, hB.alloc hB.size _⟩ ⟨X.heap.size, bv.lt, heap_alloc_new _ _, rfl⟩
  case body =>
    rintro l pre x a' X hl ⟨r, hr⟩ ⟨⟨v, bv, hrow, _⟩, hB⟩ ⟨Bx, hBx, bX, rfl⟩ hlt
    have cB := bv.cell
    have fB := bv.frozen
    obtain ⟨t0, t1, t2, t3⟩ := bX.cells
    have hbs := hB.size
    unfold mvV
    gi_wp2_with (gi_at_builtin; refine wpListIn_append_own _ rfl _ _ 51 rfl W.heap.size 31 i0 (.agg #[.int .i64 0, .int .i64 0, .int .i64 0, .bool false]) 4 32 Try.underlying51 hi hz0 hz1 hz2 rfl (by decide) _ _ _ rfl (hrow.alloc (.cells #[.int .i64 x.dx, .int .i64 x.dy, .int .i64 x.t, .bool x.f] 31)) ⟨X.heap.size, 0, none⟩ 1 1 (mc x) rfl rfl ?c1 ?c2 ?c3 ?c4 ?c5 ?_)
    case c1 =>
      intro j u hj
      match j, hj with
      | 0, hj => simp [mc] at hj; subst hj; simp [Addr.add]
      | 1, hj => simp [mc] at hj; subst hj; simp [Addr.add]
      | 2, hj => simp [mc] at hj; subst hj; simp [Addr.add]
      | 3, hj => simp [mc] at hj; subst hj; simp [Addr.add]
      | j + 4, hj => simp [mc] at hj
    case c2 => intro u hu; simp [mc] at hu; rcases hu with rfl | rfl | rfl | rfl <;> rfl
    case c3 => unfold maxLen; omega
    case c4 => omega
    case c5 => simp; omega
    intro v' w1 hown' hgrow _
    obtain ⟨g', cap', rfl⟩ := ownsRow_succ hown'
    obtain ⟨hv1, hv2, hr2, hk2, hb2⟩ := bv.appended (by decide) hrow hB.size (Nat.le_refl _) hown' hgrow
    have hc1 := hv1.cell
    have hf1 := hv1.frozen
    clear cB fB t0 t1 t2 t3
    gi_wp2
    refine ⟨hk2.from _, hb2, ⟨⟨_, hv2, ?_, True.intro⟩, hB.trans hb2⟩⟩
    rw [List.length_append, List.length_singleton, List.flatMap_append]
    simpa using hr2
  case done =>
    rintro D ys X hD rfl ⟨⟨v, bv, hrow, _⟩, hB⟩ hK
    have cB := bv.cell
    gi_wp2
    refine ⟨by simp, .inl ⟨_, _, rfl, run_takeDeferred hK, ?_⟩⟩
    exact ⟨_, results_tmp rfl _ _ _, v, rfl, ownsRow_putObj hrow _ hK rfl, hB.trans (belowK_b (w := W) (Nat.le_refl _) X D _ _ (by omega) hK rfl rfl)⟩
  case stop =>
    rintro D c pre X _ _ hx _
    exact hx.elim
end Go.Proofs.Ytgjanbgehbpciaa
