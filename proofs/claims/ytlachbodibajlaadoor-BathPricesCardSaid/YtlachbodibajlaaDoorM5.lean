/- Walks: keep; the rests; Shortest, Count. · Walks: Covers, Shortest, Count. · What comes in: words, numbers, strings. -/
import Derived.Test.YtlachbodibajlaaDoorM4
import Derived.ProofKit
import Derived.OpenShut
import Derived.ChangeOld
import Derived.Below
import Derived.Lib.SmallJoins
import Derived.Deep.Slices
import Derived.ChangeMaps5
namespace Go.Proofs.YtlachbodibajlaaDoor
open Go.RowKit Go.Shelf

set_option maxRecDepth 100000 in
theorem info75 : (Tryd.prog.info? 75).map (fun i => (i.zero, i.size, i.bytes)) = some (some (.agg #[.string ⟨#[]⟩, .int .i64 0]), 2, 24) := by kernel_rfl
theorem made_two (x y : Value) (hx : x.cells = #[x]) (hy : y.cells = #[y]) (k : Nat) : madeCells (Value.agg #[x, y]).cells (k * 2) = Array.ofFn fun i : Fin (2 * k) => tw (fun _ => x) (fun _ => y) i.1 := by
  have hc : (Value.agg #[x, y]).cells = #[x, y] := by simp [Value.cells, hx, hy]
  rw [hc]
  apply Array.ext
  · simp [madeCells]; omega
  · intro i h1 h2
    simp only [madeCells, Array.getElem_ofFn] at *
    unfold tw
    rcases Nat.mod_two_eq_zero_or_one i with h | h
    · rw [if_pos h]; simp [h]
    · rw [if_neg (by omega)]; simp [h]
theorem make_two (t e : TypeId) (x y : Value) (by_ : Nat) (ht : Tryd.prog.underlying t = some (.slice e)) (hi : (Tryd.prog.info? e).map (fun i => (i.zero, i.size, i.bytes)) = some (some (.agg #[x, y]), 2, by_)) (hx : x.cells = #[x]) (hy : y.cells = #[y]) (hb : by_ ≤ 24) (k : Nat) (hk : k ≤ 1000000) (w : World) :
    (Instr.makeSlice t (.int .i64 (k : Int)) (.int .i64 (k : Int))).run Tryd.prog w = .ok (.slice (some ⟨w.heap.size, 0, none⟩) k k) (w.alloc (.cells (Array.ofFn fun i : Fin (2 * k) => tw (fun _ => x) (fun _ => y) i.1) e)) := by
  obtain ⟨i0, hi, hz0, hz1, hz2⟩ := info_parts hi
  have h3 : k * by_ ≤ 24 * 1000000 := Nat.le_trans (Nat.mul_le_mul hk hb) (by omega)
  have hr := run_make (P := Tryd.prog) w t e i0 _ ht hi hz0 .i64 .i64 k k (by omega) (Int.le_refl _) (by rw [hz2, ← Int.natCast_mul, Nat.mul_comm]; omega) (by omega)
  rw [hr, Int.toNat_natCast, hz1, made_two x y hx hy]

set_option maxHeartbeats 4000000 in
set_option maxRecDepth 100000 in
theorem keep_any (N : Nat) (rule : Value) (f : Fn) (a1 a2 : Array Value) (hr : rule = .func f a1 a2) (hN : N ≤ 100000) (W : World) :
    Calls Tryd.prog 101 #[.int .i64 N, rule] W fun e W' => ∃ kb g1 g2, e = .returned (.pointer (some ⟨kb, 0, none⟩)) ∧ Ext W W' ∧ W.heap.size ≤ g1 ∧ W.heap.size ≤ g2 ∧ g1 ≠ g2 ∧ kb ≠ g1 ∧ kb ≠ g2 ∧
      W'.heap[kb]? = some (.cells #[rule, .slice (some ⟨g1, 0, none⟩) N N, .slice (some ⟨g2, 0, none⟩) N N] 130 (0, 0)) ∧ BB W' g1 N (fun _ => false) ∧ Bk W' g2 75 (2 * N) (tw (fun _ => .string ⟨#[]⟩) (fun _ => .int .i64 0)) := by
  subst hr
  have hm1 : ∀ w, (Instr.makeSlice 115 (.int .i64 (N : Int)) (.int .i64 (N : Int))).run Tryd.prog w = .ok (.slice (some ⟨w.heap.size, 0, none⟩) N N) (w.alloc (.cells (Array.ofFn fun _ : Fin N => .bool false) 4)) :=
    fun w => make_one 115 4 _ 1 Tryd.underlying115 info4 rfl (by omega) N (by omega) w
  have hm2 : ∀ w, (Instr.makeSlice 128 (.int .i64 (N : Int)) (.int .i64 (N : Int))).run Tryd.prog w = .ok (.slice (some ⟨w.heap.size, 0, none⟩) N N) (w.alloc (.cells (Array.ofFn fun i : Fin (2 * N) => tw (fun _ => .string ⟨#[]⟩) (fun _ => .int .i64 0) i.1) 75)) :=
    fun w => make_two 128 75 _ _ 24 Tryd.underlying128 info75 rfl rfl (by omega) N (by omega) w
  obtain ⟨C1, hC1⟩ : ∃ C, C = (Array.ofFn fun _ : Fin N => Value.bool false) := ⟨_, rfl⟩
  obtain ⟨C2, hC2⟩ : ∃ C, C = (Array.ofFn fun i : Fin (2 * N) => tw (fun _ => Value.string ⟨#[]⟩) (fun _ => .int .i64 0) i.1) := ⟨_, rfl⟩
  rw [← hC1] at hm1
  rw [← hC2] at hm2
  have HC1 := Lib.hid hC1; have HC2 := Lib.hid hC2
  clear hC1 hC2
  go_enter Tryd.func101, Tryd.ntmps101
  go_upto_region 1 with fail
  go_region
  · have b1 : (((W.alloc (.cells C1 4)).alloc (.cells C2 75)).alloc (.cells #[.func f a1 a2, .slice (some ⟨W.heap.size, 0, none⟩) N N, .slice (some ⟨W.heap.size + 1, 0, none⟩) N N] 130)).drew.heap[W.heap.size]? = some (.cells C1 4 (0, 0)) := (Below.heap_alloc _ _ _ (by simp; omega)).trans ((Below.heap_alloc _ _ _ (by simp)).trans (heap_alloc_new W _))
    have b2 : (((W.alloc (.cells C1 4)).alloc (.cells C2 75)).alloc (.cells #[.func f a1 a2, .slice (some ⟨W.heap.size, 0, none⟩) N N, .slice (some ⟨W.heap.size + 1, 0, none⟩) N N] 130)).drew.heap[W.heap.size + 1]? = some (.cells C2 75 (0, 0)) := by
      have h1 := heap_alloc_new (W.alloc (.cells C1 4)) (.cells C2 75)
      simp only [World.size_alloc] at h1
      exact (Below.heap_alloc _ _ _ (by simp)).trans h1
    have b3 : (((W.alloc (.cells C1 4)).alloc (.cells C2 75)).alloc (.cells #[.func f a1 a2, .slice (some ⟨W.heap.size, 0, none⟩) N N, .slice (some ⟨W.heap.size + 1, 0, none⟩) N N] 130)).drew.heap[W.heap.size + 1 + 1]? = some (.cells #[.func f a1 a2, .slice (some ⟨W.heap.size, 0, none⟩) N N, .slice (some ⟨W.heap.size + 1, 0, none⟩) N N] 130 (0, 0)) := by
      have h1 := heap_alloc_new ((W.alloc (.cells C1 4)).alloc (.cells C2 75)) (.cells #[.func f a1 a2, .slice (some ⟨W.heap.size, 0, none⟩) N N, .slice (some ⟨W.heap.size + 1, 0, none⟩) N N] 130)
      simp only [World.size_alloc] at h1
      exact h1
    have ex : Ext W (((W.alloc (.cells C1 4)).alloc (.cells C2 75)).alloc (.cells #[.func f a1 a2, .slice (some ⟨W.heap.size, 0, none⟩) N N, .slice (some ⟨W.heap.size + 1, 0, none⟩) N N] 130)).drew := ((((Ext.refl W).alc _).alc _).alc _).drw
    generalize (((W.alloc (.cells C1 4)).alloc (.cells C2 75)).alloc (.cells #[.func f a1 a2, .slice (some ⟨W.heap.size, 0, none⟩) N N, .slice (some ⟨W.heap.size + 1, 0, none⟩) N N] 130)).drew = Y at *
    rw [HC1.out] at b1
    rw [HC2.out] at b2
    have HB := Lib.hid (And.intro b1 (And.intro b2 (And.intro b3 ex)))
    clear b1 b2 b3 ex
    go_wp2
    go_ret
    exact ⟨_, _, _, rfl, HB.out.2.2.2, Nat.le_refl _, Nat.le_succ _, by omega, by omega, by omega, HB.out.2.2.1, HB.out.1, HB.out.2.1⟩
  · have b1 : (((W.alloc (.cells C2 75)).alloc (.cells C1 4)).alloc (.cells #[.func f a1 a2, .slice (some ⟨W.heap.size + 1, 0, none⟩) N N, .slice (some ⟨W.heap.size, 0, none⟩) N N] 130)).drew.heap[W.heap.size]? = some (.cells C2 75 (0, 0)) := (Below.heap_alloc _ _ _ (by simp; omega)).trans ((Below.heap_alloc _ _ _ (by simp)).trans (heap_alloc_new W _))
    have b2 : (((W.alloc (.cells C2 75)).alloc (.cells C1 4)).alloc (.cells #[.func f a1 a2, .slice (some ⟨W.heap.size + 1, 0, none⟩) N N, .slice (some ⟨W.heap.size, 0, none⟩) N N] 130)).drew.heap[W.heap.size + 1]? = some (.cells C1 4 (0, 0)) := by
      have h1 := heap_alloc_new (W.alloc (.cells C2 75)) (.cells C1 4)
      simp only [World.size_alloc] at h1
      exact (Below.heap_alloc _ _ _ (by simp)).trans h1
    have b3 : (((W.alloc (.cells C2 75)).alloc (.cells C1 4)).alloc (.cells #[.func f a1 a2, .slice (some ⟨W.heap.size + 1, 0, none⟩) N N, .slice (some ⟨W.heap.size, 0, none⟩) N N] 130)).drew.heap[W.heap.size + 1 + 1]? = some (.cells #[.func f a1 a2, .slice (some ⟨W.heap.size + 1, 0, none⟩) N N, .slice (some ⟨W.heap.size, 0, none⟩) N N] 130 (0, 0)) := by
      have h1 := heap_alloc_new ((W.alloc (.cells C2 75)).alloc (.cells C1 4)) (.cells #[.func f a1 a2, .slice (some ⟨W.heap.size + 1, 0, none⟩) N N, .slice (some ⟨W.heap.size, 0, none⟩) N N] 130)
      simp only [World.size_alloc] at h1
      exact h1
    have ex : Ext W (((W.alloc (.cells C2 75)).alloc (.cells C1 4)).alloc (.cells #[.func f a1 a2, .slice (some ⟨W.heap.size + 1, 0, none⟩) N N, .slice (some ⟨W.heap.size, 0, none⟩) N N] 130)).drew := ((((Ext.refl W).alc _).alc _).alc _).drw
    generalize (((W.alloc (.cells C2 75)).alloc (.cells C1 4)).alloc (.cells #[.func f a1 a2, .slice (some ⟨W.heap.size + 1, 0, none⟩) N N, .slice (some ⟨W.heap.size, 0, none⟩) N N] 130)).drew = Y at *
    rw [HC2.out] at b1
    rw [HC1.out] at b2
    have HB := Lib.hid (And.intro b1 (And.intro b2 (And.intro b3 ex)))
    clear b1 b2 b3 ex
    go_wp2
    go_ret
    exact ⟨_, _, _, rfl, HB.out.2.2.2, Nat.le_succ _, Nat.le_refl _, by omega, by omega, by omega, HB.out.2.2.1, HB.out.2.1, HB.out.1⟩

/-- every number has its rest -/
theorem of_all {ws : List Bw.Word} {V : Value} {W0 : World} {kb g1 g2 gb : Nat} (hK : Kr ws V W0 kb g1 g2 gb) : ∀ (m q : Nat), q < Bw.sz ws → Bw.rem ws q ≤ m → OfOk ws W0 kb g1 g2 gb q
  | m, q, hq, hm => of_step ws V W0 kb g1 g2 gb q hK hq (rule_step ws V W0 kb g1 g2 gb q hK hq fun r hr hlt => by
      cases m with
      | zero => omega
      | succ m => exact of_all hK m r hr (by omega))

set_option maxHeartbeats 4000000 in
set_option maxRecDepth 100000 in
theorem rests_any (ws : List Bw.Word) (V : Value) (W : World) (hV : Sl W V ws) (hw : okWs ws = true) :
    Calls Tryd.prog 54 #[V] W fun e W' => ∃ W0 kb g1 g2 gb, e = .returned (.pointer (some ⟨kb, 0, none⟩)) ∧ Kr ws V W0 kb g1 g2 gb ∧ Ki ws W0 kb g1 g2 gb W' ∧ Ext W W0 := by
  have HV := Lib.hid hV; have HW := Lib.hid hw
  obtain ⟨hn1, h4, h8, hW⟩ := okWs_iff.1 hw
  have H8 := Lib.hid h8; have H4 := Lib.hid h4
  have hzl := Bw.sz_le ws h4 h8
  obtain ⟨A, c, rfl, hac, hcm, -⟩ := hV
  clear hw h8 h4 hW hn1
  go_enter Tryd.func54, Tryd.ntmps54
  go_upto_region 1 with fail
  have bb : Ext W (W.alloc (.cells #[.slice A ws.length c] 70)) := al1 W _
  have b0 : Boxed (W.alloc (.cells #[.slice A ws.length c] 70)) W.heap.size 70 (.slice A ws.length c) := heap_alloc_new W _
  generalize W.alloc (.cells #[.slice A ws.length c] 70) = W1 at *
  have m0 := b0.cell
  have mz := b0.lt
  have HB := Lib.hid (And.intro bb b0)
  clear bb b0
  go_wp2_with fail
  refine (size_any ws _ _ (HV.out.ext HB.out.1) H8.out H4.out).mono ?_
  rintro e w1 ⟨rfl, rfl⟩
  go_wp2_with fail
  refine (keep_any (Bw.sz ws) _ (.func 102) #[] #[.pointer (some ⟨W.heap.size, 0, none⟩)] rfl (by omega) _).mono ?_
  rintro e w2 ⟨kb, g1, g2, rfl, hx, l1, l2, n12, nk1, nk2, hkb, hB1, hB2⟩
  have hR : Kr ws (.slice A ws.length c) w1 kb g1 g2 W.heap.size := ⟨HW.out, HB.out.2, HV.out.ext HB.out.1, l1, l2, n12, nk1, nk2⟩
  have hI : Ki ws w1 kb g1 g2 W.heap.size w2 := ⟨hx, hkb, fun _ => false, fun _ => [], fun _ => 0, hB1, hB2, fun p _ h => by cases h⟩
  have HR := Lib.hid (And.intro hR hI)
  clear hx hkb hB1 hB2 hR hI m0 mz
  go_wp2
  go_ret
  exact ⟨w1, kb, g1, g2, W.heap.size, rfl, HR.out.1, HR.out.2, HB.out.1⟩
end Go.Proofs.YtlachbodibajlaaDoor
namespace Go.Proofs.YtlachbodibajlaaDoor
open Go.RowKit Go.Shelf

/-- what Shortest, Count return -/
def shS (ws : List Bw.Word) : List UInt8 := if okWs ws = true then (Bw.rest ws 0).1 else []
def shN (ws : List Bw.Word) : Nat := if okWs ws = true then (Bw.rest ws 0).2 else 0
def shE (ws : List Bw.Word) : Int := if okWs ws = true then 0 else 2
/-- what Covers returns -/
def okT (s : List UInt8) (ws : List Bw.Word) : Bool := okWs ws && (decide (s.length ≤ 40) && okL s)
def cvB (s : List UInt8) (ws : List Bw.Word) : Bool := okT s ws && decide (Bw.run ws 0 s = Bw.last ws)
def cvE (s : List UInt8) (ws : List Bw.Word) : Int := if okT s ws = true then 0 else 2

set_option maxRecDepth 100000 in
theorem field0 (b : ByteArray) (v : Int) (w : World) : (Instr.field 75 (.agg #[.string b, .int .i64 v]) 0).run Tryd.prog w = .ok (.string b) w := by kernel_rfl
set_option maxRecDepth 100000 in
theorem field1 (b : ByteArray) (v : Int) (w : World) : (Instr.field 75 (.agg #[.string b, .int .i64 v]) 1).run Tryd.prog w = .ok (.int .i64 v) w := by kernel_rfl
def Sm (ws : List Bw.Word) : Prop := ∀ s ∈ ws, s.length ≤ 9223372036854775807

set_option maxHeartbeats 4000000 in
set_option maxRecDepth 100000 in
theorem shortest_any (ws : List Bw.Word) (V : Value) (W : World) (hV : Sl W V ws) (hs : Sm ws) :
    Calls Tryd.prog 18 #[V] W fun e W' => e = .returned (.tuple #[.string ⟨(shS ws).toArray⟩, .int .i64 (shE ws)]) ∧ Ext W W' := by
  have HV := Lib.hid hV
  obtain ⟨A, c, rfl, hac, hcm, -⟩ := hV
  go_enter Tryd.func18, Tryd.ntmps18
  go_wp2_with fail
  refine (areWords_any ws _ _ HV.out hs).mono ?_
  rintro e w1 ⟨rfl, hx⟩
  have HX := Lib.hid hx; clear hx
  cases hw : okWs ws
  · have h1 : shS ws = [] := by unfold shS; rw [hw]; rfl
    have h2 : shE ws = 2 := by unfold shE; rw [hw]; rfl
    have H12 := Lib.hid (And.intro h1 h2)
    clear h1 h2
    go_wp2
    refine bodyPost_ret (v := .tuple #[.string ⟨#[]⟩, .int .i64 2]) (by simp [results, Tryd.results18, go_sem]) rfl ?_
    exact ⟨by rw [H12.out.1, H12.out.2], HX.out⟩
  · have h1 : shS ws = (Bw.rest ws 0).1 := by unfold shS; rw [if_pos hw]
    have h2 : shE ws = 0 := by unfold shE; rw [if_pos hw]
    have H12 := Lib.hid (And.intro h1 h2)
    have HW := Lib.hid hw
    clear h1 h2
    go_wp2_with fail
    refine (rests_any ws _ _ (HV.out.ext HX.out) HW.out).mono ?_
    rintro e w2 ⟨W0, kb, g1, g2, gb, rfl, hK, hI, hx0⟩
    have HK := Lib.hid (And.intro hK (And.intro hI hx0))
    clear hK hI hx0
    have hc := of_all HK.out.1 _ 0 (Bw.sz_pos ws) (Nat.le_refl _) w2 HK.out.2.1
    obtain ⟨u, hu⟩ : ∃ u, u = (Bw.rest ws 0).1 := ⟨_, rfl⟩
    obtain ⟨v, hv⟩ : ∃ v, v = (Bw.rest ws 0).2 := ⟨_, rfl⟩
    rw [← hu, ← hv] at hc
    have HU := Lib.hid hu
    have HC := Lib.hid hc
    clear hc hu hv
    go_wp2_with fail
    refine HC.out.mono ?_
    rintro e w3 ⟨rfl, hk, hi⟩
    have HX3 : Hid (Ext W w3) := Lib.hid (HX.out.trans (HK.out.2.2.trans hi.ext))
    clear hk hi
    have hf0 := fun w => field0 ⟨u.toArray⟩ v w
    have hf1 := fun w => field1 ⟨u.toArray⟩ v w
    go_wp2
    refine bodyPost_ret (v := .tuple #[.string ⟨u.toArray⟩, .int .i64 0]) (by simp [results, Tryd.results18, go_sem]) rfl ?_
    exact ⟨by rw [H12.out.1, H12.out.2, ← HU.out], HX3.out⟩

set_option maxHeartbeats 4000000 in
set_option maxRecDepth 100000 in
theorem count_any (ws : List Bw.Word) (V : Value) (W : World) (hV : Sl W V ws) (hs : Sm ws) :
    Calls Tryd.prog 20 #[V] W fun e W' => e = .returned (.tuple #[.int .i64 (shN ws : Nat), .int .i64 (shE ws)]) ∧ Ext W W' := by
  have HV := Lib.hid hV
  obtain ⟨A, c, rfl, hac, hcm, -⟩ := hV
  go_enter Tryd.func20, Tryd.ntmps20
  go_wp2_with fail
  refine (areWords_any ws _ _ HV.out hs).mono ?_
  rintro e w1 ⟨rfl, hx⟩
  have HX := Lib.hid hx; clear hx
  cases hw : okWs ws
  · have h1 : shN ws = 0 := by unfold shN; rw [hw]; rfl
    have h2 : shE ws = 2 := by unfold shE; rw [hw]; rfl
    have H12 := Lib.hid (And.intro h1 h2)
    clear h1 h2
    go_wp2
    refine bodyPost_ret (v := .tuple #[.int .i64 0, .int .i64 2]) (by simp [results, Tryd.results20, go_sem]) rfl ?_
    exact ⟨by rw [H12.out.1, H12.out.2]; rfl, HX.out⟩
  · have h1 : shN ws = (Bw.rest ws 0).2 := by unfold shN; rw [if_pos hw]
    have h2 : shE ws = 0 := by unfold shE; rw [if_pos hw]
    have H12 := Lib.hid (And.intro h1 h2)
    have HW := Lib.hid hw
    clear h1 h2
    go_wp2_with fail
    refine (rests_any ws _ _ (HV.out.ext HX.out) HW.out).mono ?_
    rintro e w2 ⟨W0, kb, g1, g2, gb, rfl, hK, hI, hx0⟩
    have HK := Lib.hid (And.intro hK (And.intro hI hx0))
    clear hK hI hx0
    have hc := of_all HK.out.1 _ 0 (Bw.sz_pos ws) (Nat.le_refl _) w2 HK.out.2.1
    obtain ⟨u, hu⟩ : ∃ u, u = (Bw.rest ws 0).1 := ⟨_, rfl⟩
    obtain ⟨v, hv⟩ : ∃ v, v = (Bw.rest ws 0).2 := ⟨_, rfl⟩
    rw [← hu, ← hv] at hc
    have HU := Lib.hid hv
    have HC := Lib.hid hc
    clear hc hu hv
    go_wp2_with fail
    refine HC.out.mono ?_
    rintro e w3 ⟨rfl, hk, hi⟩
    have HX3 : Hid (Ext W w3) := Lib.hid (HX.out.trans (HK.out.2.2.trans hi.ext))
    clear hk hi
    have hf0 := fun w => field0 ⟨u.toArray⟩ v w
    have hf1 := fun w => field1 ⟨u.toArray⟩ v w
    go_wp2
    refine bodyPost_ret (v := .tuple #[.int .i64 v, .int .i64 0]) (by simp [results, Tryd.results20, go_sem]) rfl ?_
    exact ⟨by rw [H12.out.1, H12.out.2, ← HU.out], HX3.out⟩

theorem take_run (ws : List Bw.Word) (s : List UInt8) {k : Nat} (hk : k < s.length) : Bw.run ws 0 (s.take (k + 1)) = Bw.mv ws (Bw.run ws 0 (s.take k)) (s.getD k 0) := by
  rw [List.take_succ_eq_append_getElem hk, Bw.run_append, List.getD_eq_getElem?_getD, List.getElem?_eq_getElem hk]; rfl

set_option maxHeartbeats 4000000 in
set_option maxRecDepth 100000 in
theorem covers_any (s : List UInt8) (ws : List Bw.Word) (V : Value) (W : World) (hV : Sl W V ws) (hs : Sm ws) (hl : s.length ≤ 9223372036854775807) :
    Calls Tryd.prog 15 #[.string ⟨s.toArray⟩, V] W fun e W' => e = .returned (.tuple #[.bool (cvB s ws), .int .i64 (cvE s ws)]) ∧ Ext W W' := by
  have HV := Lib.hid hV; have HL := Lib.hid hl
  obtain ⟨A, c, rfl, hac, hcm, -⟩ := hV
  clear hl
  go_enter Tryd.func15, Tryd.ntmps15
  go_wp2_with fail
  refine (areWords_any ws _ _ HV.out hs).mono ?_
  rintro e w1 ⟨rfl, hx⟩
  have HX := Lib.hid hx; clear hx
  cases hw : okWs ws
  · have h1 : cvB s ws = false := by unfold cvB okT; rw [hw]; rfl
    have h2 : cvE s ws = 2 := by unfold cvE okT; rw [hw]; rfl
    have H12 := Lib.hid (And.intro h1 h2)
    clear h1 h2
    go_wp2
    refine bodyPost_ret (v := .tuple #[.bool false, .int .i64 2]) (by simp [results, Tryd.results15, go_sem]) rfl ?_
    exact ⟨by rw [H12.out.1, H12.out.2], HX.out⟩
  have HW := Lib.hid hw
  clear hs
  go_wp2_with fail
  refine (areLetters_any s 40 _ HL.out).mono ?_
  rintro e w2 ⟨rfl, hx⟩
  replace HX := Lib.hid (HX.out.trans hx); clear hx
  have hd : decide ((s.length : Int) ≤ 40) = decide (s.length ≤ 40) := by rw [decide_eq_decide]; omega
  rw [hd]
  clear hd
  cases ht : (decide (s.length ≤ 40) && okL s)
  · have h1 : cvB s ws = false := by unfold cvB okT; rw [ht, hw]; rfl
    have h2 : cvE s ws = 2 := by unfold cvE okT; rw [ht, hw]; rfl
    have H12 := Lib.hid (And.intro h1 h2)
    clear h1 h2 ht hw
    go_wp2
    refine bodyPost_ret (v := .tuple #[.bool false, .int .i64 2]) (by simp [results, Tryd.results15, go_sem]) rfl ?_
    exact ⟨by rw [H12.out.1, H12.out.2], HX.out⟩
  have h1 : cvB s ws = decide (Bw.run ws 0 s = Bw.last ws) := by unfold cvB okT; rw [ht, hw]; rfl
  have h2 : cvE s ws = 0 := by unfold cvE okT; rw [ht, hw]; rfl
  have H12 := Lib.hid (And.intro h1 h2)
  have hlen : s.length ≤ 40 := by
    rw [Bool.and_eq_true, decide_eq_true_eq] at ht; exact ht.1
  clear h1 h2 ht hw
  obtain ⟨-, h4, h8, -⟩ := okWs_iff.1 HW.out
  have H4 := Lib.hid h4; have H8 := Lib.hid h8
  have hll := Nat.lt_of_lt_of_le (Bw.last_lt ws) (Bw.sz_le ws h4 h8)
  clear h4 h8
  obtain ⟨n, hn⟩ : ∃ n, n = s.length := ⟨_, rfl⟩
  have HN := Lib.hid hn
  go_wp2_with fail
  go_loopw [7, 20] (fun x i wr => ∃ k : Nat, i = .int .i64 k ∧ k ≤ n ∧ x = .int .i64 (Bw.run ws 0 (s.take k) : Nat) ∧ Hid (Ext W wr)) (fun _ i _ => n - (intOf i).toNat)
  case atStart => exact ⟨0, rfl, Nat.zero_le _, rfl, HX⟩
  case round =>
    obtain ⟨k, rfl, hk, rfl, hin⟩ := hrel
    by_cases hlt : k < s.length
    · obtain ⟨p, hp⟩ : ∃ p, p = Bw.run ws 0 (s.take k) := ⟨_, rfl⟩
      have hps : p < Bw.sz ws := by rw [hp]; exact Bw.run_lt ws 0 _ (Bw.sz_pos ws)
      have htr := take_run ws s hlt
      rw [← hp] at htr ⊢
      obtain ⟨d, hd⟩ : ∃ d, d = s.getD k 0 := ⟨_, rfl⟩
      rw [← hd] at htr
      have HTR := Lib.hid htr; have HPS := Lib.hid hps
      have hidx : ∀ h : k < (⟨s.toArray⟩ : ByteArray).size, (⟨s.toArray⟩ : ByteArray)[k] = d := fun h => by
        have e : (⟨s.toArray⟩ : ByteArray)[k] = s[k] := rfl
        rw [e, hd, List.getD_eq_getElem?_getD, List.getElem?_eq_getElem hlt]; rfl
      have hkn : k < n := by omega
      clear hp htr hps hd
      go_wp2_with fail
      refine (moved_any ws p d _ _ (HV.out.ext hin.out) H8.out H4.out HPS.out).mono ?_
      rintro e w3 ⟨rfl, rfl⟩
      rw [← HTR.out]
      clear hidx
      go_wp2
      go_roundw
      case rel => exact ⟨k + 1, by go_num, by omega, rfl, hin⟩
      case measure => simp [intOf]; omega
    · obtain rfl : k = n := by omega
      have ht : s.take k = s := by rw [hn]; exact List.take_length
      rw [ht]
      have hrl : Bw.run ws 0 s < 6561 := Nat.lt_of_lt_of_le (Bw.run_lt ws 0 s (Bw.sz_pos ws)) (Bw.sz_le ws H4.out H8.out)
      obtain ⟨r, hr⟩ : ∃ r, r = Bw.run ws 0 s := ⟨_, rfl⟩
      rw [← hr] at hrl ⊢
      have hnl : ¬ (k : Int) < s.length := by omega
      have HR := Lib.hid hr
      clear ht hr
      go_wp2_with fail
      refine (last_any ws _ _ (HV.out.ext hin.out) H8.out H4.out).mono ?_
      rintro e w3 ⟨rfl, rfl⟩
      have hbe : ((r : Int) == (Bw.last ws : Nat)) = decide (r = Bw.last ws) := by
        rw [Bool.eq_iff_iff, beq_iff_eq, decide_eq_true_eq]; omega
      go_wp2
      refine bodyPost_ret (v := .tuple #[.bool (decide (r = Bw.last ws)), .int .i64 0]) (by simp [results, Tryd.results15, go_sem]) rfl ?_
      exact ⟨by rw [H12.out.1, H12.out.2, ← HR.out], hin.out⟩

set_option maxRecDepth 100000 in
theorem rest_awake : shS [[97, 98, 99], [97, 99, 98]] = [97, 98, 99, 98] ∧ shE [[97, 98, 99], [97, 99, 98]] = 0 := by
  constructor
  · decide +kernel
  · decide +kernel
end Go.Proofs.YtlachbodibajlaaDoor
namespace Go.Proofs.YtlachbodibajlaaDoor
open Go.ChangeShapes Go.WideShapes Go.ChangeAt Go.RowKit Go.Joins Go.Deep

theorem own_ : ownKnob Tryd.prog.godebug = none := by kernel_rfl
theorem laidOut_ : laidOutB Tryd.prog = true := by kernel_rfl
theorem cells3 : Tryd.prog.cellsOf 3 = 1 := by kernel_rfl
theorem cells9 : Tryd.prog.cellsOf 9 = 1 := by kernel_rfl
theorem cells4 : Tryd.prog.cellsOf 4 = 1 := by kernel_rfl

theorem add_lit (b off j : Nat) : (⟨b, off, none⟩ : Addr).add j = ⟨b, off + j, none⟩ := by unfold Addr.add; split <;> simp_all
theorem add_none {w : World} {a : Addr} {v : Value} (h : w.cell? (a.add 0) = some v) : a.spot = none ∧ a.block < w.heap.size := by
  obtain ⟨b, off, spot⟩ := a
  have hs : spot = none := by simpa [Addr.add] using World.cell?_spot h
  have hb := World.block_lt_of_cell? w _ h
  exact ⟨hs, by simpa [Addr.add] using hb⟩

set_option maxRecDepth 1000000 in
theorem open_list_in {α : Type} [Inhabited α] (mk : α → Value) {H : Type} {enc : TypeId × Value → H} {W : World} {base : Nat} {spare : Nat → Bool} {held : Bool} {t e : TypeId} {n : Nat} {v : Value} {x : DataW H × List MemPlace}
    (ht : Tryd.prog.underlying t = some (.slice e)) (hc : Tryd.prog.cellsOf e = 1) (hmk : ∀ (n : Nat) (u : Value) (y : DataW H × List MemPlace), DataW.trod enc Tryd.prog W base spare held n e [u] = some y → ∃ z, u = mk z)
    (h : DataW.trod enc Tryd.prog W base spare held n t [v] = some x) : ∃ (n : Nat) (f : Nat → α), Vl W v n (fun j => mk (f j)) := by
  rcases open_slice1 ht hc h with ⟨hcs, -⟩ | ⟨a, len, cap, m, k, V, D, Pl, hcs, -, hl, hm, hmm, -, hx⟩
  · simp at hcs
    subst hcs
    exact ⟨0, fun _ => default, none, 0, rfl, Nat.le_refl _, by omega, fun hp => absurd hp (Nat.lt_irrefl _)⟩
  · simp at hcs
    subst hcs
    have hlm : len ≤ m := by rw [hmm]; split <;> omega
    obtain ⟨f, hf⟩ := choose_lt (α := α) (p := fun i z => V i = mk z) (fun i hi => hmk _ _ _ (hx i hi).2)
    refine ⟨len, f, some a, cap, rfl, hl, by unfold maxLen at hm; omega, fun hp => ?_⟩
    have h0 := (hx 0 (Nat.lt_of_lt_of_le hp hlm)).1
    obtain ⟨b, off, spot⟩ := a
    have hs := add_none h0
    simp at hs
    obtain ⟨rfl, hb⟩ := hs
    refine ⟨b, off, rfl, hb, fun j hj => ?_⟩
    have h1 := (hx j (Nat.lt_of_lt_of_le hj hlm)).1
    rw [add_lit] at h1
    rw [h1, hf j (Nat.lt_of_lt_of_le hj hlm)]

set_option maxRecDepth 1000000 in
theorem open_ints_in {H : Type} {enc : TypeId × Value → H} {W : World} {r : Reach} {b0 base : Nat} {spare : Nat → Bool} {held : Bool} {v : Value} {d : DataW H} {p : List MemPlace} (hv : Value.okWide Tryd.prog W r b0 32 v)
    (h : DataW.Trod enc Tryd.prog W base spare held 32 v d p) : ∃ (n : Nat) (x : Nat → Int), Il W v n x := by
  obtain ⟨A, n, c, rfl⟩ := okWide_slice Tryd.underlying32 hv
  obtain ⟨m, hm⟩ := h
  exact open_list_in (fun z => .int .i64 z) Tryd.underlying32 cells3 (fun n u y hy => by obtain ⟨z, e, -⟩ := DataW.trod_int Tryd.underlying3 hy; simp at e; exact ⟨z, e⟩) hm
theorem bytes_list (s : ByteArray) : s = ⟨s.data.toList.toArray⟩ := by cases s; simp
set_option maxRecDepth 1000000 in
theorem open_word_in {H : Type} {enc : TypeId × Value → H} {W : World} {r : Reach} {b0 base : Nat} {spare : Nat → Bool} {held : Bool} {v : Value} {d : DataW H} {p : List MemPlace} (hv : Value.okWide Tryd.prog W r b0 9 v)
    (h : DataW.Trod enc Tryd.prog W base spare held 9 v d p) : ∃ s : List UInt8, v = .string ⟨s.toArray⟩ ∧ s.length ≤ 9223372036854775807 := by
  obtain ⟨s, rfl, -, -, hl⟩ := Go.ChangeMaps.open_string Tryd.underlying9 hv h
  refine ⟨s.data.toList, by rw [← bytes_list], ?_⟩
  have : s.data.toList.length = s.size := rfl
  rw [this]
  unfold maxLen at hl
  omega
set_option maxRecDepth 1000000 in
theorem open_words_in {H : Type} {enc : TypeId × Value → H} {W : World} {r : Reach} {b0 base : Nat} {spare : Nat → Bool} {held : Bool} {v : Value} {d : DataW H} {p : List MemPlace} (hv : Value.okWide Tryd.prog W r b0 22 v)
    (h : DataW.Trod enc Tryd.prog W base spare held 22 v d p) : ∃ ws : List Bw.Word, Sl W v ws ∧ Sm ws := by
  obtain ⟨A, n, c, rfl⟩ := okWide_slice Tryd.underlying22 hv
  obtain ⟨m, hm⟩ := h
  haveI : Inhabited { l : List UInt8 // l.length ≤ 9223372036854775807 } := ⟨⟨[], by simp⟩⟩
  obtain ⟨k, f, hf⟩ := open_list_in (α := { l : List UInt8 // l.length ≤ 9223372036854775807 }) (fun z => .string ⟨z.1.toArray⟩) Tryd.underlying22 cells9 (fun n u y hy => by
    obtain ⟨s, e, -, hl⟩ := DataW.trod_string Tryd.underlying9 hy
    simp at e
    refine ⟨⟨s.data.toList, ?_⟩, by rw [← bytes_list]; exact e⟩
    have : s.data.toList.length = s.size := rfl
    rw [this]
    unfold maxLen at hl
    omega) hm
  refine ⟨(List.range k).map (fun j => (f j).1), ?_, ?_⟩
  · unfold Sl
    rw [List.length_map, List.length_range]
    refine Vl.congr hf fun j hj => ?_
    rw [List.getD_eq_getElem?_getD, List.getElem?_map, List.getElem?_range hj]; rfl
  · intro s hs
    obtain ⟨j, -, rfl⟩ := List.mem_map.1 hs
    exact (f j).2
end Go.Proofs.YtlachbodibajlaaDoor
