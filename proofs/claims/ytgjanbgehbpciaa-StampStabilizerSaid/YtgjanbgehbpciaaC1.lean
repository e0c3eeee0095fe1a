/- What moves make; blocks of bools; hasAll. -/
import Derived.Test.YtgjanbgehbpciaaB5
import Derived.Deep.LoopGhost
import Derived.Deep.AppendLies
import Derived.Laws.MakeOwn
namespace Go.Proofs.Ytgjanbgehbpciaa
open Go.RowKit

/-- what moves make, one after another -/
inductive Gen (w h : Nat) (ms : List Mv) : Mv → Prop
  | one : Gen w h ms Mv.one
  | step {m g : Mv} : m ∈ ms → Gen w h ms g → Gen w h ms (aft w h m g)
section
variable {w h : Nat} {ms ns : List Mv}
theorem Gen.has_ (hs : okSize w h = true) (hm : ∀ m ∈ ms, has w h m = true) {g : Mv} (hg : Gen w h ms g) : has w h g = true := by
  induction hg with
  | one => exact one_has hs
  | step hmm _ ih => exact aft_has hs (hm _ hmm) ih
theorem Gen.comp (hs : okSize w h = true) (hm : ∀ m ∈ ms, has w h m = true) {a b : Mv} (ha : Gen w h ms a) (hb : Gen w h ms b) : Gen w h ms (aft w h a b) := by
  have hb' := hb.has_ hs hm
  induction ha with
  | one => rw [one_aft hb']; exact hb
  | step hmm hg ih => rw [aft_assoc (hm _ hmm) (hg.has_ hs hm) hb']; exact .step hmm ih
theorem Gen.self (hs : okSize w h = true) (hm : ∀ m ∈ ms, has w h m = true) {m : Mv} (h1 : m ∈ ms) : Gen w h ms m := by
  have := Gen.step (w := w) (h := h) h1 .one
  rwa [aft_one hs (hm _ h1)] at this
theorem Gen.mono (hsub : ∀ m ∈ ms, m ∈ ns) {g : Mv} (hg : Gen w h ms g) : Gen w h ns g := by
  induction hg with
  | one => exact .one
  | step hmm _ ih => exact .step (hsub _ hmm) ih
theorem Gen.of (hs : okSize w h = true) (hm : ∀ m ∈ ms, has w h m = true) (hn : ∀ n ∈ ns, Gen w h ms n) {g : Mv} (hg : Gen w h ns g) : Gen w h ms g := by
  induction hg with
  | one => exact .one
  | step hmm _ ih => exact (hn _ hmm).comp hs hm ih
end

/-- block g holds these bools -/
def Br (W : World) (g : Nat) (l : List Bool) : Prop := W.heap[g]? = some (.cells (l.map Value.bool).toArray 4 (0, 0))
section
variable {W X Y : World} {g : Nat} {l : List Bool}
theorem Br.lt (h : Br W g l) : g < W.heap.size := (Array.getElem?_eq_some_iff.1 h).1
theorem Br.ext (h : Br X g l) (e : Ext X Y) : Br Y g l := (Below.block e g h.lt).trans h
theorem Br.cell (h : Br W g l) {j : Nat} (hj : j < l.length) : W.cell? ⟨g, j, none⟩ = some (.bool (l.getD j false)) := by
  rw [cell_of_row W g j _ 4 (0, 0) h]
  simp [List.getD_eq_getElem?_getD, List.getElem?_eq_getElem hj]
theorem Br.frozen (h : Br W g l) (o : Nat) : W.frozen? ⟨g, o, none⟩ = false := by
  unfold Br at h
  simp [World.frozen?, h]
theorem Br.set (h : Br W g l) (j : Nat) (x : Bool) : Br (W.setCell ⟨g, j, none⟩ (.bool x)) g (l.set j x) := by
  unfold Br at *
  simp [World.setCell, Array.getElem?_modify, h, List.map_set]
theorem Br.grown (h : Br W g l) {row : Option Nat} (hg : W.grownBy Y row) (hne : some g ≠ row) : Br Y g l := by
  unfold Br at *
  rw [hg.block g (Array.getElem?_eq_some_iff.1 h).1 hne]; exact h
theorem Q4.grown {a b c d : Value} (h : Q4 W g a b c d) (hlt : g < W.heap.size) {row : Option Nat} (hg : W.grownBy Y row) (hne : some g ≠ row) : Q4 Y g a b c d :=
  ⟨(World.cell?_of_block (hg.block g hlt hne)).trans h.1, (World.cell?_of_block (hg.block g hlt hne)).trans h.2.1, (World.cell?_of_block (hg.block g hlt hne)).trans h.2.2.1, (World.cell?_of_block (hg.block g hlt hne)).trans h.2.2.2⟩
theorem Q4.off {a b c d v : Value} {p q : Nat} (h : Q4 W g a b c d) (hne : g ≠ p) : Q4 (W.setCell ⟨p, q, none⟩ v) g a b c d := by
  have e : ∀ i, (W.setCell ⟨p, q, none⟩ v).cell? ⟨g, i, none⟩ = W.cell? ⟨g, i, none⟩ := fun i => World.cell?_setCell_other _ _ _ _ (by intro e; injection e with e1; exact hne e1.symm)
  exact ⟨(e 0).trans h.1, (e 1).trans h.2.1, (e 2).trans h.2.2.1, (e 3).trans h.2.2.2⟩
end

theorem infoB4 : (Try.prog.info? 4).map (fun i => (i.zero, i.size, i.bytes)) = some (some (.bool false), 1, 1) := by kernel_rfl
theorem made_bool (k : Nat) : madeCells (Value.bool false).cells k = ((List.replicate k false).map Value.bool).toArray := by
  apply Array.ext
  · simp [madeCells]
  · intro i h1 h2
    simp [madeCells, Value.cells, Nat.mod_one]
theorem make_bool (k : Nat) (hk : k ≤ 70368744177664 / 2) (w : World) :
    (Instr.makeSlice 104 (.int .i64 (k : Int)) (.int .i64 (k : Int))).run Try.prog w = .ok (.slice (some ⟨w.heap.size, 0, none⟩) k k) (w.alloc (.cells ((List.replicate k false).map Value.bool).toArray 4)) := by
  obtain ⟨i0, hi, hz0, hz1, hz2⟩ := info_parts infoB4
  have hr := run_make (P := Try.prog) w 104 4 i0 _ Try.underlying104 hi hz0 .i64 .i64 k k (by omega) (Int.le_refl _) (by rw [hz2]; omega) (by omega)
  rw [hr, Int.toNat_natCast, hz1, Nat.mul_one, made_bool]

set_option maxHeartbeats 1000000 in
set_option maxRecDepth 100000 in
theorem hasAll_c (w h : Nat) (b off n c : Nat) (l : List Mv) (W : World) (hn : n = l.length) (hnc : n ≤ c) (hcm : c ≤ 9223372036854775807) (hb : b < W.heap.size)
    (hc : ∀ j m, l[j]? = some m → W.cell? ⟨b, off + j * 4, none⟩ = some (.int .i64 m.dx) ∧ W.cell? ⟨b, off + (j * 4 + 1), none⟩ = some (.int .i64 m.dy) ∧ W.cell? ⟨b, off + (j * 4 + 2), none⟩ = some (.int .i64 m.t) ∧ W.cell? ⟨b, off + (j * 4 + 3), none⟩ = some (.bool m.f)) :
    Calls Try.prog 62 #[.agg #[.int .i64 w, .int .i64 h], .slice (some ⟨b, off, none⟩) n c] W fun e W' => e = .returned (.bool (l.all (fun m => has w h m))) ∧ Ext W W' := by
  have HC := Lib.hid hc; have HN := Lib.hid hn; clear hc hn
  go_enter Try.func62, Try.ntmps62
  go_wp2_with fail
  have q1 : C2 (W.alloc (.cells #[.int .i64 w, .int .i64 h] 84)) W.heap.size (.int .i64 w) (.int .i64 h) := by
    refine ⟨?_, ?_⟩ <;> (rw [World.cell?_alloc_new]; rfl)
  have bb := al1 W (.cells #[.int .i64 w, .int .i64 h] 84)
  have zz : (W.alloc (.cells #[.int .i64 w, .int .i64 h] 84)).heap.size = W.heap.size + 1 := by simp
  generalize (W.alloc (.cells #[.int .i64 w, .int .i64 h] 84)) = W1 at *
  have zle : W.heap.size + 1 ≤ W1.heap.size := by omega
  have BB : Hid (Ext W W1) := Lib.hid bb; have H1 := Lib.hid q1
  clear bb zz q1
  go_loopw [9] (fun i wr => ∃ k : Nat, i = .int .i64 k ∧ k ≤ n ∧ Ext W1 wr ∧ ∀ j m, j < k → l[j]? = some m → has w h m = true) (fun i _ => n - (intOf i).toNat)
  case atStart => exact ⟨0, rfl, by omega, Ext.refl _, fun j m hj => by omega⟩
  case round =>
    obtain ⟨k, rfl, hk, he, hall⟩ := hrel
    have HE := Lib.hid he; have HALL := Lib.hid hall; clear he hall
    by_cases hlt : k < n
    · obtain ⟨m, hm⟩ : ∃ m, l[k]? = some m := ⟨l[k]'(by rw [← HN.out]; exact hlt), List.getElem?_eq_getElem _⟩
      obtain ⟨c0, c1, c2, c3⟩ := HC.out k m hm
      have E0 := Lib.hid (BB.out.trans HE.out)
      have d0 := keepAt E0.out hb c0; have d1 := keepAt E0.out hb c1; have d2 := keepAt E0.out hb c2; have d3 := keepAt E0.out hb c3
      clear c0 c1 c2 c3
      obtain ⟨z0, z1⟩ := H1.out.ext (by omega) HE.out
      have hsz : W1.heap.size ≤ wr.heap.size := HE.out.size
      have hszv : W.heap.size < wr.heap.size := by omega
      rw [← Nat.add_assoc] at d1 d2 d3
      have HM := Lib.hid hm; clear hm
      cases hh : has w h m
      · have HH := Lib.hid hh; clear hh
        go_wp2_with fail
        refine (has_is (b := false) HH.out _).mono ?_
        rintro e V ⟨rfl, hx⟩
        have e1 : Ext wr V := nx ((Ext.refl wr).alc _) hx
        have E1 := Lib.hid (E0.out.trans e1); clear e1 hx d0 d1 d2 d3 z0 z1
        have hf : (l.all fun m => has w h m) = false := by
          rw [List.all_eq_false]
          exact ⟨m, List.mem_of_getElem? HM.out, by rw [HH.out]; simp⟩
        have HF := Lib.hid hf; clear hf
        go_wp2
        go_ret
        exact ⟨by rw [HF.out]; rfl, E1.out⟩
      · have HH := Lib.hid hh; clear hh
        go_wp2_with fail
        refine (has_is (b := true) HH.out _).mono ?_
        rintro e V ⟨rfl, hx⟩
        have e1 : Ext wr V := nx ((Ext.refl wr).alc _) hx
        have E1 := Lib.hid (HE.out.trans e1); clear e1 hx d0 d1 d2 d3 z0 z1
        have hA : Hid (∀ j m, j < k + 1 → l[j]? = some m → has w h m = true) := Lib.hid (fun j m' hj hm' => by
          rcases Nat.lt_or_ge j k with h1 | h1
          · exact HALL.out j m' h1 hm'
          · obtain rfl : j = k := by omega
            rw [HM.out] at hm'; injection hm' with hm'; rw [← hm']; exact HH.out)
        go_wp2_with fail
        go_roundw
        case rel => exact ⟨k + 1, by go_num, by omega, E1.out, hA.out⟩
        case measure => simp [intOf]; omega
    · obtain rfl : k = n := by omega
      have hf : (l.all fun m => has w h m) = true := by
        rw [List.all_eq_true]
        intro m hm
        obtain ⟨j, hj⟩ := List.getElem?_of_mem hm
        have hjl : j < l.length := (List.getElem?_eq_some_iff.1 hj).1
        exact HALL.out j m (by rw [HN.out]; exact hjl) hj
      have HF := Lib.hid hf; clear hf
      go_wp2
      go_ret
      exact ⟨by rw [HF.out]; rfl, BB.out.trans HE.out⟩
end Go.Proofs.Ytgjanbgehbpciaa
