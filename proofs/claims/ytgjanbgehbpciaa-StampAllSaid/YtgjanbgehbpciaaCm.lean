/- What moves make; blocks of bools; hasAll. · Walks: madeOf. · Walks: madeOf. · The groups that moves make, in order; what a group is. -/
import Derived.Test.YtgjanbgehbpciaaB5
import Derived.Deep.LoopGhost
import Derived.Deep.AppendLies
import Derived.Laws.MakeOwn
namespace Go.Proofs.Ytgjanbgehbpciaa
open Go.RowKit

/-- what moves make, one after another -/
inductive Gen (w h : Nat) (ms : List Mv) : Mv → Prop
  | one : Gen w h ms Mv.one
  | step {m g : Mv} : m ∈ ms → Gen w h ms g → Gen w h ms (aft w h m g)
section
variable {w h : Nat} {ms ns : List Mv}
theorem Gen.has_ (hs : okSize w h = true) (hm : ∀ m ∈ ms, has w h m = true) {g : Mv} (hg : Gen w h ms g) : has w h g = true := by
  induction hg with
  | one => exact one_has hs
  | step hmm _ ih => exact aft_has hs (hm _ hmm) ih
theorem Gen.comp (hs : okSize w h = true) (hm : ∀ m ∈ ms, has w h m = true) {a b : Mv} (ha : Gen w h ms a) (hb : Gen w h ms b) : Gen w h ms (aft w h a b) := by
  have hb' := hb.has_ hs hm
  induction ha with
  | one => rw [one_aft hb']; exact hb
  | step hmm hg ih => rw [aft_assoc (hm _ hmm) (hg.has_ hs hm) hb']; exact .step hmm ih
theorem Gen.self (hs : okSize w h = true) (hm : ∀ m ∈ ms, has w h m = true) {m : Mv} (h1 : m ∈ ms) : Gen w h ms m := by
  have := Gen.step (w := w) (h := h) h1 .one
  rwa [aft_one hs (hm _ h1)] at this
theorem Gen.mono (hsub : ∀ m ∈ ms, m ∈ ns) {g : Mv} (hg : Gen w h ms g) : Gen w h ns g := by
  induction hg with
  | one => exact .one
  | step hmm _ ih => exact .step (hsub _ hmm) ih
theorem Gen.of (hs : okSize w h = true) (hm : ∀ m ∈ ms, has w h m = true) (hn : ∀ n ∈ ns, Gen w h ms n) {g : Mv} (hg : Gen w h ns g) : Gen w h ms g := by
  induction hg with
  | one => exact .one
  | step hmm _ ih => exact (hn _ hmm).comp hs hm ih
end

/-- block g holds these bools -/
def Br (W : World) (g : Nat) (l : List Bool) : Prop := W.heap[g]? = some (.cells (l.map Value.bool).toArray 4 (0, 0))
section
variable {W X Y : World} {g : Nat} {l : List Bool}
theorem Br.lt (h : Br W g l) : g < W.heap.size := (Array.getElem?_eq_some_iff.1 h).1
theorem Br.ext (h : Br X g l) (e : Ext X Y) : Br Y g l := (Below.block e g h.lt).trans h
theorem Br.cell (h : Br W g l) {j : Nat} (hj : j < l.length) : W.cell? ⟨g, j, none⟩ = some (.bool (l.getD j false)) := by
  rw [cell_of_row W g j _ 4 (0, 0) h]
  simp [List.getD_eq_getElem?_getD, List.getElem?_eq_getElem hj]
theorem Br.frozen (h : Br W g l) (o : Nat) : W.frozen? ⟨g, o, none⟩ = false := by
  unfold Br at h
  simp [World.frozen?, h]
theorem Br.set (h : Br W g l) (j : Nat) (x : Bool) : Br (W.setCell ⟨g, j, none⟩ (.bool x)) g (l.set j x) := by
  unfold Br at *
  simp [World.setCell, Array.getElem?_modify, h, List.map_set]
theorem Br.grown (h : Br W g l) {row : Option Nat} (hg : W.grownBy Y row) (hne : some g ≠ row) : Br Y g l := by
  unfold Br at *
  rw [hg.block g (Array.getElem?_eq_some_iff.1 h).1 hne]; exact h
theorem Q4.grown {a b c d : Value} (h : Q4 W g a b c d) (hlt : g < W.heap.size) {row : Option Nat} (hg : W.grownBy Y row) (hne : some g ≠ row) : Q4 Y g a b c d :=
  ⟨(World.cell?_of_block (hg.block g hlt hne)).trans h.1, (World.cell?_of_block (hg.block g hlt hne)).trans h.2.1, (World.cell?_of_block (hg.block g hlt hne)).trans h.2.2.1, (World.cell?_of_block (hg.block g hlt hne)).trans h.2.2.2⟩
theorem Q4.off {a b c d v : Value} {p q : Nat} (h : Q4 W g a b c d) (hne : g ≠ p) : Q4 (W.setCell ⟨p, q, none⟩ v) g a b c d := by
  have e : ∀ i, (W.setCell ⟨p, q, none⟩ v).cell? ⟨g, i, none⟩ = W.cell? ⟨g, i, none⟩ := fun i => World.cell?_setCell_other _ _ _ _ (by intro e; injection e with e1; exact hne e1.symm)
  exact ⟨(e 0).trans h.1, (e 1).trans h.2.1, (e 2).trans h.2.2.1, (e 3).trans h.2.2.2⟩
end

theorem infoB4 : (Try.prog.info? 4).map (fun i => (i.zero, i.size, i.bytes)) = some (some (.bool false), 1, 1) := by kernel_rfl
theorem made_bool (k : Nat) : madeCells (Value.bool false).cells k = ((List.replicate k false).map Value.bool).toArray := by
  apply Array.ext
  · simp [madeCells]
  · intro i h1 h2
    simp [madeCells, Value.cells, Nat.mod_one]
theorem make_bool (k : Nat) (hk : k ≤ 70368744177664 / 2) (w : World) :
    (Instr.makeSlice 104 (.int .i64 (k : Int)) (.int .i64 (k : Int))).run Try.prog w = .ok (.slice (some ⟨w.heap.size, 0, none⟩) k k) (w.alloc (.cells ((List.replicate k false).map Value.bool).toArray 4)) := by
  obtain ⟨i0, hi, hz0, hz1, hz2⟩ := info_parts infoB4
  have hr := run_make (P := Try.prog) w 104 4 i0 _ Try.underlying104 hi hz0 .i64 .i64 k k (by omega) (Int.le_refl _) (by rw [hz2]; omega) (by omega)
  rw [hr, Int.toNat_natCast, hz1, Nat.mul_one, made_bool]

set_option maxHeartbeats 1000000 in
set_option maxRecDepth 100000 in
theorem hasAll_c (w h : Nat) (b off n c : Nat) (l : List Mv) (W : World) (hn : n = l.length) (hnc : n ≤ c) (hcm : c ≤ 9223372036854775807) (hb : b < W.heap.size)
    (hc : ∀ j m, l[j]? = some m → W.cell? ⟨b, off + j * 4, none⟩ = some (.int .i64 m.dx) ∧ W.cell? ⟨b, off + (j * 4 + 1), none⟩ = some (.int .i64 m.dy) ∧ W.cell? ⟨b, off + (j * 4 + 2), none⟩ = some (.int .i64 m.t) ∧ W.cell? ⟨b, off + (j * 4 + 3), none⟩ = some (.bool m.f)) :
    Calls Try.prog 62 #[.agg #[.int .i64 w, .int .i64 h], .slice (some ⟨b, off, none⟩) n c] W fun e W' => e = .returned (.bool (l.all (fun m => has w h m))) ∧ Ext W W' := by
  have HC := Lib.hid hc; have HN := Lib.hid hn; clear hc hn
  go_enter Try.func62, Try.ntmps62
  go_wp2_with fail
  have q1 : C2 (W.alloc (.cells #[.int .i64 w, .int .i64 h] 84)) W.heap.size (.int .i64 w) (.int .i64 h) := by
    refine ⟨?_, ?_⟩ <;> (rw [World.cell?_alloc_new]; rfl)
  have bb := al1 W (.cells #[.int .i64 w, .int .i64 h] 84)
  have zz : (W.alloc (.cells #[.int .i64 w, .int .i64 h] 84)).heap.size = W.heap.size + 1 := by simp
  generalize (W.alloc (.cells #[.int .i64 w, .int .i64 h] 84)) = W1 at *
  have zle : W.heap.size + 1 ≤ W1.heap.size := by omega
  have BB : Hid (Ext W W1) := Lib.hid bb; have H1 := Lib.hid q1
  clear bb zz q1
  go_loopw [9] (fun i wr => ∃ k : Nat, i = .int .i64 k ∧ k ≤ n ∧ Ext W1 wr ∧ ∀ j m, j < k → l[j]? = some m → has w h m = true) (fun i _ => n - (intOf i).toNat)
  case atStart => exact ⟨0, rfl, by omega, Ext.refl _, fun j m hj => by omega⟩
  case round =>
    obtain ⟨k, rfl, hk, he, hall⟩ := hrel
    have HE := Lib.hid he; have HALL := Lib.hid hall; clear he hall
    by_cases hlt : k < n
    · obtain ⟨m, hm⟩ : ∃ m, l[k]? = some m := ⟨l[k]'(by rw [← HN.out]; exact hlt), List.getElem?_eq_getElem _⟩
      obtain ⟨c0, c1, c2, c3⟩ := HC.out k m hm
      have E0 := Lib.hid (BB.out.trans HE.out)
      have d0 := keepAt E0.out hb c0; have d1 := keepAt E0.out hb c1; have d2 := keepAt E0.out hb c2; have d3 := keepAt E0.out hb c3
      clear c0 c1 c2 c3
      obtain ⟨z0, z1⟩ := H1.out.ext (by omega) HE.out
      have hsz : W1.heap.size ≤ wr.heap.size := HE.out.size
      have hszv : W.heap.size < wr.heap.size := by omega
      rw [← Nat.add_assoc] at d1 d2 d3
      have HM := Lib.hid hm; clear hm
      cases hh : has w h m
      · have HH := Lib.hid hh; clear hh
        go_wp2_with fail
        refine (has_is (b := false) HH.out _).mono ?_
        rintro e V ⟨rfl, hx⟩
        have e1 : Ext wr V := nx ((Ext.refl wr).alc _) hx
        have E1 := Lib.hid (E0.out.trans e1); clear e1 hx d0 d1 d2 d3 z0 z1
        have hf : (l.all fun m => has w h m) = false := by
          rw [List.all_eq_false]
          exact ⟨m, List.mem_of_getElem? HM.out, by rw [HH.out]; simp⟩
        have HF := Lib.hid hf; clear hf
        go_wp2
        go_ret
        exact ⟨by rw [HF.out]; rfl, E1.out⟩
      · have HH := Lib.hid hh; clear hh
        go_wp2_with fail
        refine (has_is (b := true) HH.out _).mono ?_
        rintro e V ⟨rfl, hx⟩
        have e1 : Ext wr V := nx ((Ext.refl wr).alc _) hx
        have E1 := Lib.hid (HE.out.trans e1); clear e1 hx d0 d1 d2 d3 z0 z1
        have hA : Hid (∀ j m, j < k + 1 → l[j]? = some m → has w h m = true) := Lib.hid (fun j m' hj hm' => by
          rcases Nat.lt_or_ge j k with h1 | h1
          · exact HALL.out j m' h1 hm'
          · obtain rfl : j = k := by omega
            rw [HM.out] at hm'; injection hm' with hm'; rw [← hm']; exact HH.out)
        go_wp2_with fail
        go_roundw
        case rel => exact ⟨k + 1, by go_num, by omega, E1.out, hA.out⟩
        case measure => simp [intOf]; omega
    · obtain rfl : k = n := by omega
      have hf : (l.all fun m => has w h m) = true := by
        rw [List.all_eq_true]
        intro m hm
        obtain ⟨j, hj⟩ := List.getElem?_of_mem hm
        have hjl : j < l.length := (List.getElem?_eq_some_iff.1 hj).1
        exact HALL.out j m (by rw [HN.out]; exact hjl) hj
      have HF := Lib.hid hf; clear hf
      go_wp2
      go_ret
      exact ⟨by rw [HF.out]; rfl, BB.out.trans HE.out⟩
end Go.Proofs.Ytgjanbgehbpciaa
namespace Go.Proofs.Ytgjanbgehbpciaa
open Go.RowKit

/-- how many are still false -/
def Cf (bs : List Bool) : Nat := bs.countP (fun b => !b)
theorem getD_set_b {bs : List Bool} {n k : Nat} (hn : n < bs.length) : (bs.set n true).getD k false = if k = n then true else bs.getD k false := by
  rw [List.getD_eq_getElem?_getD, List.getElem?_set, List.getD_eq_getElem?_getD]
  by_cases h : n = k
  · subst h; simp [hn]
  · have h' : ¬ k = n := fun e => h e.symm
    simp [h, h']
theorem Cf_set {bs : List Bool} {n : Nat} (hn : n < bs.length) (hf : bs.getD n false = false) : Cf (bs.set n true) + 1 = Cf bs := by
  unfold Cf
  rw [List.countP_set hn]
  have h1 : bs[n] = false := by rw [List.getD_eq_getElem?_getD, List.getElem?_eq_getElem hn] at hf; exact hf
  have hpos : 0 < bs.countP (fun b => !b) := List.countP_pos_iff.2 ⟨false, by rw [← h1]; exact List.getElem_mem _, rfl⟩
  rw [h1]
  simp
  omega

/-- what is known of the bools and of the stack -/
structure KI (w h : Nat) (ms : List Mv) (bs : List Bool) (fs : List Mv) : Prop where
  len : bs.length = pos w h 2 0 0 0
  sound : ∀ n, bs.getD n false = true → has w h (dec w h n) = true ∧ Gen w h ms (dec w h n)
  one : bs.getD (nm w h Mv.one) false = true
  stk : ∀ g ∈ fs, has w h g = true ∧ bs.getD (nm w h g) false = true
/-- what is not on the stack is done -/
def KO (w h : Nat) (ms : List Mv) (bs : List Bool) (fs : List Mv) : Prop := KI w h ms bs fs ∧ ∀ g, has w h g = true → bs.getD (nm w h g) false = true → g ∉ fs → ∀ m ∈ ms, bs.getD (nm w h (aft w h m g)) false = true
/-- the same, but that one move is done with j makers -/
def KJ (w h : Nat) (ms : List Mv) (bs : List Bool) (fs : List Mv) (last : Mv) (j : Nat) : Prop :=
  KI w h ms bs fs ∧ has w h last = true ∧ Gen w h ms last ∧ (∀ g, has w h g = true → bs.getD (nm w h g) false = true → g ∉ fs → g ≠ last → ∀ m ∈ ms, bs.getD (nm w h (aft w h m g)) false = true) ∧
    ∀ i m, i < j → ms[i]? = some m → bs.getD (nm w h (aft w h m last)) false = true
section
variable {w h : Nat} {ms : List Mv} {bs : List Bool} {fs : List Mv} {last : Mv} {j : Nat}
theorem KI.gen (hk : KI w h ms bs fs) {g : Mv} (hg : has w h g = true) (hb : bs.getD (nm w h g) false = true) : Gen w h ms g := by
  have := (hk.sound _ hb).2
  rwa [dec_nm hg] at this
theorem KO.pop (hk : KO w h ms bs (fs ++ [last])) : KJ w h ms bs fs last 0 := by
  obtain ⟨h1, h2⟩ := hk
  have hl := h1.stk last (by simp)
  refine ⟨⟨h1.len, h1.sound, h1.one, fun g hg => h1.stk g (by simp [hg])⟩, hl.1, h1.gen hl.1 hl.2, fun g hg hb hf hne => h2 g hg hb (by simp [hf, hne]), fun i m hi => by omega⟩
theorem KJ.done (hk : KJ w h ms bs fs last ms.length) : KO w h ms bs fs := by
  obtain ⟨h1, h2, h3, h4, h5⟩ := hk
  refine ⟨h1, fun g hg hb hf m hm => ?_⟩
  by_cases hl : g = last
  · subst hl
    obtain ⟨i, hi⟩ := List.getElem?_of_mem hm
    exact h5 i m (List.getElem?_eq_some_iff.1 hi).1 hi
  · exact h4 g hg hb hf hl m hm
theorem KJ.old (hk : KJ w h ms bs fs last j) {m : Mv} (hm : ms[j]? = some m) (hb : bs.getD (nm w h (aft w h m last)) false = true) : KJ w h ms bs fs last (j + 1) := by
  obtain ⟨h1, h2, h3, h4, h5⟩ := hk
  refine ⟨h1, h2, h3, h4, fun i m' hi hm' => ?_⟩
  rcases Nat.lt_or_ge i j with h | h
  · exact h5 i m' h hm'
  · obtain rfl : i = j := by omega
    rw [hm] at hm'; injection hm' with hm'; rw [← hm']; exact hb
theorem KJ.new (hs : okSize w h = true) (hms : ∀ m ∈ ms, has w h m = true) (hk : KJ w h ms bs fs last j) {m : Mv} (hm : ms[j]? = some m) :
    KJ w h ms (bs.set (nm w h (aft w h m last)) true) (fs ++ [aft w h m last]) last (j + 1) := by
  obtain ⟨h1, h2, h3, h4, h5⟩ := hk
  have hmm := List.mem_of_getElem? hm
  have hx := aft_has hs (hms m hmm) h2
  have hn : nm w h (aft w h m last) < bs.length := by rw [h1.len]; exact nm_bd hx
  have hmono : ∀ k, bs.getD k false = true → (bs.set (nm w h (aft w h m last)) true).getD k false = true := fun k hb => by rw [getD_set_b hn]; split <;> simp_all
  refine ⟨⟨by rw [List.length_set]; exact h1.len, fun k hb => ?_, hmono _ h1.one, fun g hg => ?_⟩, h2, h3, fun g hg hb hf hne m' hm' => ?_, fun i m' hi hm' => ?_⟩
  · rw [getD_set_b hn] at hb
    by_cases e : k = nm w h (aft w h m last)
    · rw [e, dec_nm hx]; exact ⟨hx, .step hmm h3⟩
    · rw [if_neg e] at hb; exact h1.sound k hb
  · rw [List.mem_append, List.mem_singleton] at hg
    rcases hg with hg | rfl
    · exact ⟨(h1.stk g hg).1, hmono _ (h1.stk g hg).2⟩
    · exact ⟨hx, by rw [getD_set_b hn, if_pos rfl]⟩
  · simp only [List.mem_append, List.mem_singleton, not_or] at hf
    rw [getD_set_b hn] at hb
    have hne2 : nm w h g ≠ nm w h (aft w h m last) := fun e => hf.2 (nm_inj hg hx e)
    rw [if_neg hne2] at hb
    exact hmono _ (h4 g hg hb hf.1 hne m' hm')
  · rcases Nat.lt_or_ge i j with h | h
    · exact hmono _ (h5 i m' h hm')
    · obtain rfl : i = j := by omega
      rw [hm] at hm'; injection hm' with hm'; rw [← hm', getD_set_b hn, if_pos rfl]
/-- in the end the bools are what the makers make -/
def GB (w h : Nat) (ms : List Mv) (bs : List Bool) : Prop := bs.length = pos w h 2 0 0 0 ∧ ∀ g, has w h g = true → (bs.getD (nm w h g) false = true ↔ Gen w h ms g)
theorem KO.gb (hs : okSize w h = true) (hms : ∀ m ∈ ms, has w h m = true) (hk : KO w h ms bs []) : GB w h ms bs ∧ ∀ n, bs.getD n false = true → has w h (dec w h n) = true := by
  obtain ⟨h1, h2⟩ := hk
  refine ⟨⟨h1.len, fun g hg => ⟨h1.gen hg, fun hgen => ?_⟩⟩, fun n hb => (h1.sound n hb).1⟩
  clear hg
  induction hgen with
  | one => exact h1.one
  | step hm hg ih => exact h2 _ (hg.has_ hs hms) ih (by simp) _ hm
theorem KO.start (hs : okSize w h = true) : KO w h ms ((List.replicate (pos w h 2 0 0 0) false).set 0 true) [Mv.one] := by
  have hs' := okSize_iff.1 hs
  have h0 : nm w h Mv.one = 0 := by simp [nm, pos, Mv.one]
  have hlen : 0 < (List.replicate (pos w h 2 0 0 0) false).length := by
    have := nm_bd (one_has hs)
    rw [h0] at this
    rw [List.length_replicate]; exact this
  have hg : ∀ k, ((List.replicate (pos w h 2 0 0 0) false).set 0 true).getD k false = true → k = 0 := fun k hb => by
    rw [getD_set_b hlen] at hb
    by_cases e : k = 0
    · exact e
    · rw [if_neg e, List.getD_eq_getElem?_getD, List.getElem?_replicate] at hb
      split at hb <;> simp at hb
  have hone : ((List.replicate (pos w h 2 0 0 0) false).set 0 true).getD (nm w h Mv.one) false = true := by rw [h0, getD_set_b hlen, if_pos rfl]
  have hd : dec w h 0 = Mv.one := by have := dec_nm (one_has hs); rwa [h0] at this
  refine ⟨⟨by simp, fun n hb => ?_, hone, fun g hg' => ?_⟩, fun g hg' hb hf => ?_⟩
  · rw [hg n hb, hd]; exact ⟨one_has hs, .one⟩
  · rw [List.mem_singleton] at hg'; subst hg'; exact ⟨one_has hs, hone⟩
  · exact absurd (by rw [List.mem_singleton]; exact nm_inj hg' (one_has hs) (by rw [h0]; exact hg _ hb)) hf
theorem KI.fs_len (hk : KI w h ms bs fs) : True := True.intro
end

/-- the stack -/
def Stk (wr : World) (B gf cap : Nat) (fs : List Mv) : Prop := wr.ownsRow B 31 4 (.slice (some ⟨gf, 0, none⟩) fs.length cap) fs.length (fs.flatMap mc)
theorem Stk.pop {wr : World} {B gf cap : Nat} {fs : List Mv} {m : Mv} (h : Stk wr B gf cap (fs ++ [m])) : Stk wr B gf cap fs := by
  obtain ⟨h1, h2 | ⟨g, cp, cur, he, hg, hh, hn, hcap, hsz, htake⟩⟩ := h
  · obtain ⟨he, _⟩ := h2; cases he
  · injection he with e1 e2 e3
    subst e3
    refine ⟨mc_len fs, .inr ⟨g, cap, cur, by rw [e1], hg, hh, by simp at hn; omega, hcap, hsz, ?_⟩⟩
    have := congrArg (List.take (fs.length * 4)) htake
    have e3 : min (fs.length * 4) ((fs ++ [m]).length * 4) = fs.length * 4 := by simp
    rw [List.take_take, e3, List.flatMap_append, List.take_append_of_le_length (by rw [mc_len]; exact Nat.le_refl _), List.take_of_length_le (l := fs.flatMap mc) (by rw [mc_len]; exact Nat.le_refl _)] at this
    exact this
theorem Stk.last {wr : World} {B gf cap : Nat} {fs : List Mv} {m : Mv} (h : Stk wr B gf cap (fs ++ [m])) : wr.cell? ⟨gf, fs.length * 4, none⟩ = some (.int .i64 m.dx) ∧ wr.cell? ⟨gf, fs.length * 4 + 1, none⟩ = some (.int .i64 m.dy) ∧ wr.cell? ⟨gf, fs.length * 4 + 2, none⟩ = some (.int .i64 m.t) ∧ wr.cell? ⟨gf, fs.length * 4 + 3, none⟩ = some (.bool m.f) := by
  have e : ∀ i, (⟨gf, 0, none⟩ : Addr).add i = ⟨gf, i, none⟩ := fun i => by unfold Addr.add; split <;> simp_all
  obtain ⟨a0, a1, a2, a3⟩ := mc_at (fs ++ [m]) fs.length m (by simp)
  refine ⟨?_, ?_, ?_, ?_⟩ <;> (rw [← e]; apply World.ownsRow.cells h rfl; assumption)
theorem Stk.cap {wr : World} {B gf cap : Nat} {fs : List Mv} (h : Stk wr B gf cap fs) : fs.length ≤ cap ∧ cap ≤ 9223372036854775807 ∧ B ≤ gf ∧ gf < wr.heap.size := by
  obtain ⟨h1, h2 | ⟨g, cp, cur, he, hg, hh, hn, hcap, hsz, htake⟩⟩ := h
  · obtain ⟨he, _⟩ := h2; cases he
  · injection he with e1 e2 e3
    injection e1 with e1
    injection e1 with e1
    subst e3 e1
    exact ⟨hn, by unfold maxLen at hcap; omega, hg, (Array.getElem?_eq_some_iff.1 hh).1⟩
theorem Stk.ext {X Y : World} {B gf cap : Nat} {fs : List Mv} (h : Stk X B gf cap fs) (e : Ext X Y) : Stk Y B gf cap fs := World.ownsRow.ext h e
theorem Stk.far {X : World} {B gf cap g i : Nat} {u : Value} {fs : List Mv} (h : Stk X B gf cap fs) (hne : g ≠ gf) : Stk (X.setCell ⟨g, i, none⟩ u) B gf cap fs := by
  obtain ⟨h1, h2 | ⟨g', cp, cur, he, hg, hh, rest⟩⟩ := h
  · obtain ⟨he, _⟩ := h2; cases he
  · refine ⟨h1, .inr ⟨g', cp, cur, he, hg, ?_, rest⟩⟩
    injection he with e1
    injection e1 with e1
    injection e1 with e1
    subst e1
    simp [World.setCell, Array.getElem?_modify, hh, hne]
end Go.Proofs.Ytgjanbgehbpciaa
namespace Go.Proofs.Ytgjanbgehbpciaa
open Go.RowKit

/-- at the outer loop's head -/
def MO (W1 : World) (w h : Nat) (ms : List Mv) (gin : Nat) (g : Nat) (v : Value) (wr : World) : Prop :=
  ∃ gf cap bs fs, v = .slice (some ⟨gf, 0, none⟩) fs.length cap ∧ g ≤ 1024 ∧ 2 * Cf bs + fs.length ≤ g ∧ Stk wr W1.heap.size gf cap fs ∧ Br wr gin bs ∧ gin ≠ gf ∧ Ext W1 wr ∧ KO w h ms bs fs
/-- at the inner loop's head -/
def MJ (W1 : World) (w h : Nat) (ms : List Mv) (gin g7 : Nat) (g : Nat) (last : Mv) (j : Nat) (v : Value) (wr : World) : Prop :=
  ∃ gf cap bs fs, v = .slice (some ⟨gf, 0, none⟩) fs.length cap ∧ 2 * Cf bs + fs.length + 1 ≤ g ∧ Stk wr W1.heap.size gf cap fs ∧ Br wr gin bs ∧ gin ≠ gf ∧ Ext W1 wr ∧ Q4 wr g7 (.int .i64 last.dx) (.int .i64 last.dy) (.int .i64 last.t) (.bool last.f) ∧ g7 ≠ gf ∧ g7 ≠ gin ∧ g7 < wr.heap.size ∧ KJ w h ms bs fs last j

set_option maxHeartbeats 4000000 in
set_option maxRecDepth 100000 in
theorem madeOf_c (w h : Nat) (A : Option Addr) (N c : Nat) (ms : List Mv) (W : World) (hs : okSize w h = true) (hms : ∀ m ∈ ms, has w h m = true) (hml : Ml W (.slice A N c) ms) (hN5 : N ≤ 100000) :
    Calls Try.prog 86 #[.agg #[.int .i64 w, .int .i64 h], .slice A N c] W fun e W' => ∃ g bs, e = .returned (.slice (some ⟨g, 0, none⟩) (pos w h 2 0 0 0) (pos w h 2 0 0 0)) ∧ Br W' g bs ∧ GB w h ms bs ∧ (∀ n, bs.getD n false = true → has w h (dec w h n) = true) ∧ W.heap.size ≤ g ∧ Ext W W' := by
  have hs' := okSize_iff.1 hs
  have hNN := pos2_bd (w := w) (h := h) (by omega) (by omega)
  have hNN1 := nm_bd (one_has hs)
  obtain ⟨i0, hi, hz0, hz1, hz2⟩ := info_parts info31
  have hmk := make_bool (pos w h 2 0 0 0) (by omega)
  obtain ⟨NN, hNNe⟩ : ∃ NN, NN = pos w h 2 0 0 0 := ⟨_, rfl⟩
  have hnb := fun X => numbers_any w h X (by omega) (by omega)
  have hst := KO.start (ms := ms) hs
  rw [← hNNe] at hmk hNN hnb hNN1 ⊢
  have hN0 : 0 < NN := by omega
  have HNE := Lib.hid hNNe; have HNB := Lib.hid hnb; have HS := Lib.hid hs; have HMS := Lib.hid hms; have HML := Lib.hid hml; have HST := Lib.hid hst
  clear hNNe hnb hs hms hml hst hNN1 hs'
  have hlen : N = ms.length := HML.out.len
  have HLEN := Lib.hid hlen; clear hlen
  obtain ⟨ob, hob⟩ : ∃ ob : Obj, ob = .cells ((List.replicate NN false).map Value.bool).toArray 4 := ⟨_, rfl⟩
  rw [← hob] at hmk
  have HOB := Lib.hid hob; clear hob
  go_enter Try.func86, Try.ntmps86
  go_upto_region 1 with fail
  have q1 : C2 (W.alloc (.cells #[.int .i64 w, .int .i64 h] 84)) W.heap.size (.int .i64 w) (.int .i64 h) := by
    refine ⟨?_, ?_⟩ <;> (rw [World.cell?_alloc_new]; rfl)
  have bb := al1 W (.cells #[.int .i64 w, .int .i64 h] 84)
  have zz : (W.alloc (.cells #[.int .i64 w, .int .i64 h] 84)).heap.size = W.heap.size + 1 := by simp
  generalize (W.alloc (.cells #[.int .i64 w, .int .i64 h] 84)) = W1 at *
  have zle : W.heap.size < W1.heap.size := by omega
  have BB : Hid (Ext W W1) := Lib.hid bb; have H1 := Lib.hid q1
  clear bb zz
  obtain ⟨q0, q1'⟩ := q1
  go_wp2_with fail
  refine (HNB.out _).mono ?_
  rintro e V ⟨rfl, hx⟩
  have HV : Hid (Ext W1 V) := Lib.hid hx; clear hx q0 q1'
  go_upto_region 2 with fail
  have hb0 : Br (V.alloc ob) V.heap.size (List.replicate NN false) := by rw [HOB.out]; exact heap_alloc_new _ _
  have he0 : Ext W1 (V.alloc ob) := HV.out.alc _
  have hgin : W1.heap.size ≤ V.heap.size := HV.out.size
  obtain ⟨gin, hgi⟩ : ∃ gin, gin = V.heap.size := ⟨_, rfl⟩
  rw [← hgi] at hb0 hgin ⊢
  generalize V.alloc ob = V2 at *
  clear hgi hmk
  have f0 : ∀ o, V2.frozen? ⟨gin, o, none⟩ = false := fun o => hb0.frozen o
  have c0 := hb0.cell (j := 0) (by simp; exact hN0)
  have HB0 := Lib.hid hb0; have HE0 := Lib.hid he0; clear hb0 he0
  go_wp2_with fail
  clear c0 f0
  have hb1 : Br (V2.setCell ⟨gin, 0, none⟩ (.bool true)) gin ((List.replicate NN false).set 0 true) := HB0.out.set 0 true
  have he1 : Ext W1 (V2.setCell ⟨gin, 0, none⟩ (.bool true)) := HE0.out.sc hgin
  have hgz : gin < (V2.setCell ⟨gin, 0, none⟩ (.bool true)).heap.size := hb1.lt
  have hse : (V2.setCell ⟨gin, 0, none⟩ (.bool true)).heap.size = V2.heap.size := by simp [World.setCell]
  obtain ⟨sz, hsz⟩ : ∃ sz, sz = V2.heap.size := ⟨_, rfl⟩
  rw [← hsz] at hse ⊢
  generalize V2.setCell ⟨gin, 0, none⟩ (.bool true) = V3 at *
  subst hse
  clear hsz
  have HB1 := Lib.hid hb1; have HE1 := Lib.hid he1; clear hb1 he1 HB0 HE0
  have hsk : Stk (V3.alloc (.cells #[.int .i64 0, .int .i64 0, .int .i64 0, .bool false] 31)) W1.heap.size V3.heap.size 1 [Mv.one] :=
    ⟨rfl, .inr ⟨V3.heap.size, 1, #[.int .i64 0, .int .i64 0, .int .i64 0, .bool false], rfl, HE1.out.size, heap_alloc_new _ _, Nat.le_refl _, by unfold maxLen; omega, rfl, rfl⟩⟩
  have hbr := HB1.out.ext (Ext.alc (Ext.refl V3) (.cells #[.int .i64 0, .int .i64 0, .int .i64 0, .bool false] 31))
  have hex := HE1.out.alc (.cells #[.int .i64 0, .int .i64 0, .int .i64 0, .bool false] 31)
  have HSK := Lib.hid hsk; have HBR := Lib.hid hbr; have HEX := Lib.hid hex; clear hsk hbr hex
  go_loopg [6] (2 * NN) (fun g v wr => MO W1 w h ms gin g v wr)
  case atStart =>
    refine ⟨V3.heap.size, 1, _, [Mv.one], rfl, by omega, ?_, HSK.out, HBR.out, by omega, HEX.out, by rw [HNE.out]; exact HST.out⟩
    have hf : (List.replicate NN false).getD 0 false = false := by rw [List.getD_eq_getElem?_getD, List.getElem?_replicate]; split <;> rfl
    have h1 := Cf_set (bs := List.replicate NN false) (n := 0) (by simp; exact hN0) hf
    have h2 : Cf (List.replicate NN false) = NN := by unfold Cf; rw [List.countP_replicate]; simp
    simp only [List.length_singleton]
    omega
  case round =>
    obtain ⟨gf, cap, bs, fs, rfl, hgk, hmeas, hsk, hbr, hne, hex, hko⟩ := hrel
    clear HSK HBR HEX HB1 HE1
    have HSK := Lib.hid hsk; have HBR := Lib.hid hbr; have HEX := Lib.hid hex; have HKO := Lib.hid hko; clear hsk hbr hex hko
    rcases List.eq_nil_or_concat fs with hfs | ⟨fs', last, hfs⟩
    · subst hfs
      obtain ⟨hg1, hg2⟩ := HKO.out.gb HS.out HMS.out
      have G1 := Lib.hid hg1; have G2 := Lib.hid hg2; clear hg1 hg2
      simp only [List.length_nil] at HSK ⊢
      go_wp2
      go_ret
      exact ⟨gin, bs, by rw [HNE.out]; rfl, HBR.out, G1.out, G2.out, by omega, BB.out.trans HEX.out⟩
    · rw [List.concat_eq_append] at hfs
      subst hfs
      obtain ⟨k, hk⟩ : ∃ k, k = fs'.length := ⟨_, rfl⟩
      have hlast := HSK.out.last
      have hcap := HSK.out.cap
      have hpop := HSK.out.pop
      have hkj := HKO.out.pop
      simp only [List.length_append, List.length_singleton] at hmeas hlast hcap hpop hkj ⊢
      rw [← hk] at hlast hcap hmeas ⊢
      obtain ⟨l0, l1, l2, l3⟩ := hlast
      have HK := Lib.hid hk; have HPOP := Lib.hid hpop; have HKJ := Lib.hid hkj; clear hk hpop hkj HSK HKO
      obtain ⟨p1, p2, p3, p4⟩ := hcap
      go_wp2_with fail
      obtain ⟨wo, rfl⟩ : ∃ wo : World, wo = wr := ⟨_, rfl⟩
      have E7 : Hid (Ext wo (wo.alloc (.cells #[.int .i64 last.dx, .int .i64 last.dy, .int .i64 last.t, .bool last.f] 31))) := Lib.hid ((Ext.refl _).alc _)
      have hq7 : Q4 (wo.alloc (.cells #[.int .i64 last.dx, .int .i64 last.dy, .int .i64 last.t, .bool last.f] 31)) wo.heap.size (.int .i64 last.dx) (.int .i64 last.dy) (.int .i64 last.t) (.bool last.f) := by
        refine ⟨?_, ?_, ?_, ?_⟩ <;> (rw [World.cell?_alloc_new]; rfl)
      have HQ7 := Lib.hid hq7; clear hq7 l0 l1 l2 l3
      have hgin2 : gin < wo.heap.size := HBR.out.lt
      go_loopw [6, 35] (fun v i wr => ∃ j : Nat, i = .int .i64 j ∧ j ≤ N ∧ MJ W1 w h ms gin wo.heap.size gk last j v wr) (fun _ i _ => N - (intOf i).toNat)
      case atStart =>
        exact ⟨0, rfl, by omega, gf, cap, bs, fs', by rw [← HK.out], by rw [← HK.out]; omega, World.ownsRow.ext HPOP.out E7.out, HBR.out.ext E7.out, hne, HEX.out.trans E7.out, HQ7.out, by omega, by omega, by simp, HKJ.out⟩
      case round =>
        obtain ⟨j, rfl, hj, gf, cap, bs, fs, rfl, hmeas, hsk, hbr, hne, hex, hq7, h7f, h7i, h7l, hkj⟩ := hrel
        clear HPOP HBR HEX HQ7 HKJ HK E7
        have HSK := Lib.hid hsk; have HBR := Lib.hid hbr; have HEX := Lib.hid hex; have HQ7 := Lib.hid hq7; have HKJ := Lib.hid hkj; clear hsk hbr hex hq7 hkj
        obtain ⟨n, hn⟩ : ∃ n, n = fs.length := ⟨_, rfl⟩
        have hcap := HSK.out.cap
        rw [← hn] at hmeas hcap ⊢
        have HN := Lib.hid hn; clear hn
        by_cases hlt : j < N
        · obtain ⟨m, hm⟩ : ∃ m, ms[j]? = some m := ⟨ms[j]'(by rw [← HLEN.out]; exact hlt), List.getElem?_eq_getElem _⟩
          obtain ⟨A', c', e, -, -, hcell⟩ := HML.out
          injection e with e1 e2 e3
          obtain ⟨b, off, e4, hb, hc⟩ := hcell (by rw [← HLEN.out]; omega)
          rw [e4] at e1
          subst e1
          clear e2 e3 hcell e4
          obtain ⟨d0, d1, d2, d3⟩ := hc j m hm
          have E0 := Lib.hid (BB.out.trans HEX.out)
          replace d0 := keepAt E0.out hb d0; replace d1 := keepAt E0.out hb d1; replace d2 := keepAt E0.out hb d2; replace d3 := keepAt E0.out hb d3
          clear hc
          rw [← Nat.add_assoc] at d1 d2 d3
          obtain ⟨z0, z1⟩ := H1.out.ext zle HEX.out
          obtain ⟨l0, l1, l2, l3⟩ := HQ7.out
          have hszz : W.heap.size < wr.heap.size := Nat.lt_of_lt_of_le zle HEX.out.size
          have HM := Lib.hid hm; clear hm
          go_wp2_with fail
          have hmm : m ∈ ms := List.mem_of_getElem? HM.out
          have hlh : has w h last = true := HKJ.out.2.1
          refine (after_any w h m last _ HS.out (HMS.out m hmm) hlh).mono ?_
          rintro e V ⟨rfl, hx⟩
          have e1 : Ext wr V := nx ((Ext.refl wr).alc _) hx
          have hxh : has w h (aft w h m last) = true := aft_has HS.out (HMS.out m hmm) hlh
          have hkn := HKJ.out.new HS.out HMS.out HM.out
          have hko := fun (hb : bs.getD (nm w h (aft w h m last)) false = true) => HKJ.out.old HM.out hb
          have hnb := nm_bd hxh
          rw [← HNE.out] at hnb
          obtain ⟨x, hxe⟩ : ∃ x, x = aft w h m last := ⟨_, rfl⟩
          rw [← hxe] at hxh hkn hko hnb ⊢
          have HXH := Lib.hid hxh; have HKN := Lib.hid hkn; have HKO := Lib.hid hko; clear hxh hkn hko hxe hmm hlh
          have E1 := Lib.hid e1; clear e1 hx d0 d1 d2 d3 z0 z1 l0 l1 l2 l3
          obtain ⟨z0, z1⟩ := H1.out.ext zle (HEX.out.trans E1.out)
          have hszv : W.heap.size < V.heap.size := Nat.lt_of_lt_of_le hszz E1.out.size
          go_wp2_with fail
          refine (number_any w h x _ HS.out HXH.out).mono ?_
          rintro e V2 ⟨rfl, hx⟩
          have e2 : Ext V V2 := nx ((Ext.refl V).alc _) hx
          have hqx : Q4 (V.alloc (.cells #[.int .i64 x.dx, .int .i64 x.dy, .int .i64 x.t, .bool x.f] 31)) V.heap.size (.int .i64 x.dx) (.int .i64 x.dy) (.int .i64 x.t) (.bool x.f) := by
            refine ⟨?_, ?_, ?_, ?_⟩ <;> (rw [World.cell?_alloc_new]; rfl)
          have hqx2 := hqx.ext (by simp) hx
          have hvs : V.heap.size < V2.heap.size := by have := Ext.size hx; simp at this; omega
          have E2 := Lib.hid (E1.out.trans e2); have HQX := Lib.hid hqx2; clear e2 hx hqx hqx2 z0 z1
          have hbr2 := HBR.out.ext E2.out
          have hblen : bs.length = NN := by rw [HNE.out]; exact HKJ.out.1.len
          obtain ⟨nn, hnn⟩ : ∃ nn, nn = nm w h x := ⟨_, rfl⟩
          rw [← hnn] at hnb ⊢
          have HNN2 := Lib.hid hnn; clear hnn
          have cb := hbr2.cell (j := nn) (by omega)
          have fb := hbr2.frozen
          have HBR2 := Lib.hid hbr2; clear hbr2
          have HBL := Lib.hid hblen; clear hblen
          have hgne : gin ≠ V.heap.size := by have := HBR.out.lt; have := E1.out.size; omega
          have hgne' : V.heap.size ≠ gin := fun e => hgne e.symm
          cases hb0 : bs.getD nn false
          · rw [hb0] at cb
            have HB0' := Lib.hid hb0; clear hb0
            obtain ⟨t0, t1, t2, t3⟩ := HQX.out
            have hz4 : (V2.setCell ⟨gin, nn, none⟩ (.bool true)).heap.size = V2.heap.size := by simp [World.setCell]
            have hbr4 := HBR2.out.set nn true
            have hsk4 := (Stk.ext HSK.out E2.out).far (i := nn) (u := .bool true) hne
            have hq74 : Q4 (V2.setCell ⟨gin, nn, none⟩ (.bool true)) wo.heap.size _ _ _ _ := (HQ7.out.ext h7l E2.out).off h7i
            have he4 := (HEX.out.trans E2.out).sc (i := nn) (v := .bool true) hgin
            have hown : ((V2.setCell ⟨gin, nn, none⟩ (.bool true)).alloc (.cells #[.int .i64 x.dx, .int .i64 x.dy, .int .i64 x.t, .bool x.f] 31)).ownsRow W1.heap.size 31 4 (.slice (some ⟨gf, 0, none⟩) n cap) n (fs.flatMap mc) := by
              have := World.ownsRow.alloc hsk4 (.cells #[.int .i64 x.dx, .int .i64 x.dy, .int .i64 x.t, .bool x.f] 31)
              rwa [← HN.out] at this
            have h7l2 : wo.heap.size < V2.heap.size := Nat.lt_of_lt_of_le h7l E2.out.size
            have hgl2 : gin < V2.heap.size := HBR2.out.lt
            have hgf2 : gf < V2.heap.size := Nat.lt_of_lt_of_le hcap.2.2.2 E2.out.size
            have hbase := (HEX.out.trans E2.out).size
            have HBR4 := Lib.hid hbr4; have HQ74 := Lib.hid hq74; have HE4 := Lib.hid he4; have HZ4 := Lib.hid hz4; clear hbr4 hq74 he4 hz4 hsk4
            go_wp2_with (at_builtin; refine wpList_append_lies _ rfl _ _ 51 rfl W1.heap.size 31 i0 (.agg #[.int .i64 0, .int .i64 0, .int .i64 0, .bool false]) 4 32 Try.underlying51 hi hz0 hz1 hz2 rfl (by decide) _ n _ rfl hown ⟨V2.heap.size, 0, none⟩ 1 1 (mc x) rfl rfl ?c1 ?c2 (by omega) ?c3 ?c4 ?c5 _ rfl ?_)
            case c1 =>
              intro j u hj
              match j, hj with
              | 0, hj => simp [mc] at hj; subst hj; simp [Addr.add]; rw [World.cell?_alloc_at _ _ _ _ (by simp [World.setCell])]; rfl
              | 1, hj => simp [mc] at hj; subst hj; simp [Addr.add]; rw [World.cell?_alloc_at _ _ _ _ (by simp [World.setCell])]; rfl
              | 2, hj => simp [mc] at hj; subst hj; simp [Addr.add]; rw [World.cell?_alloc_at _ _ _ _ (by simp [World.setCell])]; rfl
              | 3, hj => simp [mc] at hj; subst hj; simp [Addr.add]; rw [World.cell?_alloc_at _ _ _ _ (by simp [World.setCell])]; rfl
              | j + 4, hj => simp [mc] at hj
            case c2 => intro u hu; simp [mc] at hu; rcases hu with rfl | rfl | rfl | rfl <;> rfl
            case c3 => unfold maxLen; omega
            case c4 => omega
            case c5 => simp; omega
            intro g cp w9 hown' hgrow hat hlt9
            have hz5 : ((V2.setCell ⟨gin, nn, none⟩ (.bool true)).alloc (.cells #[.int .i64 x.dx, .int .i64 x.dy, .int .i64 x.t, .bool x.f] 31)).heap.size = V2.heap.size + 1 := by simp
            have hgg : g = gf ∨ g = V2.heap.size + 1 := by
              rcases hat with h1 | h1
              · left; simpa [Value.ownBlock] using h1.symm
              · right; exact h1
            have hsk9 : Stk w9 W1.heap.size g cp (fs ++ [x]) := by
              unfold Stk
              rw [List.length_append, List.length_singleton, List.flatMap_append, ← HN.out]
              simpa using hown'
            have hbr9 : Br w9 gin (bs.set nn true) := (HBR4.out.ext ((Ext.refl _).alc _)).grown hgrow (by simp [Value.ownBlock]; exact hne)
            have hq9 : Q4 w9 wo.heap.size (.int .i64 last.dx) (.int .i64 last.dy) (.int .i64 last.t) (.bool last.f) := (HQ74.out.ext (by rw [HZ4.out]; exact h7l2) ((Ext.refl _).alc _)).grown (by rw [hz5]; omega) hgrow (by simp [Value.ownBlock]; exact h7f)
            have he9 : Ext W1 w9 := Below.grown (HE4.out.alc _) hgrow (by rw [hz5]; omega) (fun k hk => by simp [Value.ownBlock] at hk; omega)
            have hsz9 := hgrow.size
            rw [hz5] at hsz9
            have hcf : Cf (bs.set nn true) + 1 = Cf bs := Cf_set (by rw [HBL.out]; exact hnb) HB0'.out
            have hkj9 : KJ w h ms (bs.set nn true) (fs ++ [x]) last (j + 1) := by rw [HNN2.out]; exact HKN.out
            have hfin : Hid (MJ W1 w h ms gin wo.heap.size gk last (j + 1) (.slice (some ⟨g, 0, none⟩) (n + 1) cp) w9) := Lib.hid ⟨g, cp, bs.set nn true, fs ++ [x], by rw [List.length_append, List.length_singleton, ← HN.out], by rw [List.length_append, List.length_singleton, ← HN.out]; omega, hsk9, hbr9, by omega, he9, hq9, by omega, h7i, by omega, hkj9⟩
            clear hsk9 hbr9 hq9 he9 hkj9 hcf hown' hgrow hat hown t0 t1 t2 t3 cb fb hz5
            go_wp2_with fail
            go_roundw
            case rel => exact ⟨j + 1, by go_num, by omega, hfin.out⟩
            case measure => simp [intOf]; omega
          · rw [hb0] at cb
            have HB0' := Lib.hid hb0; clear hb0
            go_wp2_with fail
            go_roundw
            case rel =>
              exact ⟨j + 1, by go_num, by omega, gf, cap, bs, fs, by rw [← HN.out], by rw [← HN.out]; omega, World.ownsRow.ext HSK.out E2.out, HBR2.out, hne, HEX.out.trans E2.out, HQ7.out.ext h7l E2.out, h7f, h7i, Nat.lt_of_lt_of_le h7l E2.out.size, HKO.out (by rw [← HNN2.out]; exact HB0'.out)⟩
            case measure => simp [intOf]; omega
        · obtain rfl : j = N := by omega
          have hko : KO w h ms bs fs := by
            have := HKJ.out
            rw [HLEN.out] at this
            exact this.done
          have HKO := Lib.hid hko; clear hko
          go_wp2_with fail
          go_roundg (gk - 1)
          case rel => exact ⟨gf, cap, bs, fs, by rw [← HN.out], by omega, by rw [← HN.out]; omega, HSK.out, HBR.out, hne, HEX.out, HKO.out⟩
          case measure => omega
end Go.Proofs.Ytgjanbgehbpciaa
namespace Go.Proofs.Ytgjanbgehbpciaa
open Go.RowKit

open Classical in
/-- what moves make, in order -/
noncomputable def grp (w h : Nat) (ms : List Mv) : List Mv := (mvs w h (pos w h 2 0 0 0)).filter (fun m => decide (Gen w h ms m))
theorem grp_congr {w h : Nat} {ms ns : List Mv} (he : ∀ g, Gen w h ms g ↔ Gen w h ns g) : grp w h ms = grp w h ns := by
  have : Gen w h ms = Gen w h ns := funext fun g => propext (he g)
  unfold grp; rw [this]
/-- the moves that are marked among the first k -/
def fnd (w h : Nat) (bs : List Bool) (k : Nat) : List Mv := ((List.range k).filter (fun n => bs.getD n false)).map (dec w h)
theorem fnd_zero (w h : Nat) (bs : List Bool) : fnd w h bs 0 = [] := rfl
theorem fnd_yes {w h k : Nat} {bs : List Bool} (hb : bs.getD k false = true) : fnd w h bs (k + 1) = fnd w h bs k ++ [dec w h k] := by
  unfold fnd
  have : List.filter (fun n => bs.getD n false) [k] = [k] := by rw [List.filter_cons, if_pos hb]; rfl
  rw [List.range_succ, List.filter_append, List.map_append, this]; rfl
theorem fnd_no {w h k : Nat} {bs : List Bool} (hb : bs.getD k false = false) : fnd w h bs (k + 1) = fnd w h bs k := by
  unfold fnd
  have : List.filter (fun n => bs.getD n false) [k] = [] := by rw [List.filter_cons, if_neg (by rw [hb]; decide)]; rfl
  rw [List.range_succ, List.filter_append, List.map_append, this, List.map_nil, List.append_nil]
theorem fnd_len (w h : Nat) (bs : List Bool) (k : Nat) : (fnd w h bs k).length ≤ k := by
  unfold fnd
  have := List.length_filter_le (fun n => bs.getD n false) (List.range k)
  simpa using this
theorem fnd_grp {w h : Nat} {ms : List Mv} {bs : List Bool} (hs : okSize w h = true) (hg : GB w h ms bs) (hh : ∀ n, bs.getD n false = true → has w h (dec w h n) = true) : fnd w h bs (pos w h 2 0 0 0) = grp w h ms := by
  have hs' := okSize_iff.1 hs
  unfold fnd grp mvs
  rw [List.filter_filter, List.filter_map]
  congr 1
  refine List.filter_congr fun n hn => ?_
  rw [List.mem_range] at hn
  have hnm := nm_dec (w := w) (h := h) (by omega) (by omega) hn
  rw [Bool.eq_iff_iff]
  simp only [Function.comp, Bool.and_eq_true, decide_eq_true_eq]
  constructor
  · intro hb
    have h1 := hh n hb
    exact ⟨(hg.2 _ h1).1 (by rw [hnm]; exact hb), h1⟩
  · rintro ⟨h1, h2⟩
    have := (hg.2 _ h2).2 h1
    rwa [hnm] at this

theorem mvs_mem {w h : Nat} {m : Mv} : m ∈ mvs w h (pos w h 2 0 0 0) ↔ has w h m = true := by
  unfold mvs
  rw [List.mem_filter, List.mem_map]
  constructor
  · exact fun h => h.2
  · exact fun hm => ⟨⟨nm w h m, List.mem_range.2 (nm_bd hm), dec_nm hm⟩, hm⟩
theorem grp_mem {w h : Nat} {ms : List Mv} (hs : okSize w h = true) (hms : ∀ m ∈ ms, has w h m = true) {m : Mv} : m ∈ grp w h ms ↔ Gen w h ms m := by
  unfold grp
  rw [List.mem_filter, mvs_mem]
  simp only [decide_eq_true_eq]
  exact ⟨fun h => h.2, fun h => ⟨h.has_ hs hms, h⟩⟩
/-- rising in the order of moves -/
def Ris (w h : Nat) (g : List Mv) : Prop := g.Pairwise (fun a b => nm w h a < nm w h b)
theorem mvs_ris {w h : Nat} (hs : okSize w h = true) : Ris w h (mvs w h (pos w h 2 0 0 0)) := by
  have hs' := okSize_iff.1 hs
  unfold Ris mvs
  refine List.Pairwise.filter _ ?_
  rw [List.pairwise_map]
  refine List.Pairwise.imp_of_mem ?_ List.pairwise_lt_range
  intro a b ha hb hab
  rw [List.mem_range] at ha hb
  rw [nm_dec (by omega) (by omega) ha, nm_dec (by omega) (by omega) hb]
  exact hab
theorem ris_ext {w h : Nat} : ∀ {l k : List Mv}, Ris w h l → Ris w h k → (∀ x, x ∈ l ↔ x ∈ k) → l = k
  | [], [], _, _, _ => rfl
  | [], b :: k, _, _, he => by have := (he b).2 (List.mem_cons_self ..); cases this
  | a :: l, [], _, _, he => by have := (he a).1 (List.mem_cons_self ..); cases this
  | a :: l, b :: k, hl, hk, he => by
    unfold Ris at hl hk
    rw [List.pairwise_cons] at hl hk
    have hab : a = b := by
      rcases List.mem_cons.1 ((he a).1 (List.mem_cons_self ..)) with h1 | h1
      · exact h1
      · rcases List.mem_cons.1 ((he b).2 (List.mem_cons_self ..)) with h2 | h2
        · exact h2.symm
        · have := hk.1 a h1; have := hl.1 b h2; omega
    subst hab
    have := ris_ext (l := l) (k := k) hl.2 hk.2 (fun x => by
      constructor
      · intro hx
        rcases List.mem_cons.1 ((he x).1 (List.mem_cons_of_mem _ hx)) with h1 | h1
        · subst h1; have := hl.1 x hx; omega
        · exact h1
      · intro hx
        rcases List.mem_cons.1 ((he x).2 (List.mem_cons_of_mem _ hx)) with h1 | h1
        · subst h1; have := hk.1 x hx; omega
        · exact h1)
    rw [this]
/-- a group of a size: its moves, rising, with all that they make -/
structure IsG (w h : Nat) (g : List Mv) : Prop where
  has : ∀ m ∈ g, has w h m = true
  ris : Ris w h g
  gen : ∀ m, Gen w h g m → m ∈ g
open Classical in
noncomputable def grpB (w h : Nat) (g : List Mv) : Bool := decide (IsG w h g)
theorem grpB_t {w h : Nat} {g : List Mv} (hg : IsG w h g) : grpB w h g = true := by unfold grpB; simp [hg]
theorem grpB_f {w h : Nat} {g : List Mv} (hg : ¬ IsG w h g) : grpB w h g = false := by unfold grpB; simp [hg]
theorem grpB_iff {w h : Nat} {g : List Mv} : grpB w h g = true ↔ IsG w h g := by unfold grpB; simp
section
variable {w h : Nat} {g : List Mv}
theorem grp_ris (hs : okSize w h = true) (g : List Mv) : Ris w h (grp w h g) := List.Pairwise.filter _ (mvs_ris hs)
theorem IsG.grp_eq (hs : okSize w h = true) (hg : IsG w h g) : grp w h g = g :=
  ris_ext (grp_ris hs g) hg.ris (fun x => (grp_mem hs hg.has).trans ⟨hg.gen x, fun hx => Gen.self hs hg.has hx⟩)
theorem isG_of_len (hs : okSize w h = true) (hh : ∀ m ∈ g, Go.Proofs.Ytgjanbgehbpciaa.has w h m = true) (hr : Ris w h g) (hl : (grp w h g).length = g.length) : IsG w h g := by
  refine ⟨hh, hr, fun m hm => ?_⟩
  have e : g = (grp w h g).filter (fun m => decide (m ∈ g)) := by
    refine ris_ext hr (List.Pairwise.filter _ (grp_ris hs g)) (fun x => ?_)
    rw [List.mem_filter, grp_mem hs hh]
    simp only [decide_eq_true_eq]
    exact ⟨fun hx => ⟨Gen.self hs hh hx, hx⟩, fun hx => hx.2⟩
  have hsub : g.Sublist (grp w h g) := by
    have := List.filter_sublist (p := fun m => decide (m ∈ g)) (l := grp w h g)
    rwa [← e] at this
  have := hsub.eq_of_length hl.symm
  rw [this]
  exact (grp_mem hs hh).2 hm
/-- how many moves a group has tells that it is one -/
theorem grpB_len (hs : okSize w h = true) (hh : ∀ m ∈ g, Go.Proofs.Ytgjanbgehbpciaa.has w h m = true) (hr : Ris w h g) : grpB w h g = decide ((grp w h g).length = g.length) := by
  by_cases hl : (grp w h g).length = g.length
  · rw [decide_eq_true hl]; exact grpB_t (isG_of_len hs hh hr hl)
  · rw [decide_eq_false hl]; exact grpB_f fun hg => hl (by rw [hg.grp_eq hs])
theorem ris_mvs (hs : okSize w h = true) (hh : ∀ m ∈ g, Go.Proofs.Ytgjanbgehbpciaa.has w h m = true) (hr : Ris w h g) : (mvs w h (pos w h 2 0 0 0)).filter (fun m => decide (m ∈ g)) = g := by
  refine ris_ext (List.Pairwise.filter _ (mvs_ris hs)) hr (fun x => ?_)
  rw [List.mem_filter, mvs_mem]
  simp only [decide_eq_true_eq]
  exact ⟨fun hx => hx.2, fun hx => ⟨hh x hx, hx⟩⟩
theorem ris_len (hs : okSize w h = true) (hh : ∀ m ∈ g, Go.Proofs.Ytgjanbgehbpciaa.has w h m = true) (hr : Ris w h g) : g.length ≤ pos w h 2 0 0 0 := by
  have h1 := List.length_filter_le (fun m => decide (m ∈ g)) (mvs w h (pos w h 2 0 0 0))
  rw [ris_mvs hs hh hr] at h1
  exact Nat.le_trans h1 (mvs_len _ _ _)
theorem grp_len (w h : Nat) (g : List Mv) : (grp w h g).length ≤ pos w h 2 0 0 0 := Nat.le_trans (List.length_filter_le _ _) (mvs_len _ _ _)
/-- the definition by pairs -/
theorem isG_iff (hs : okSize w h = true) : IsG w h g ↔ (∀ m ∈ g, Go.Proofs.Ytgjanbgehbpciaa.has w h m = true) ∧ (mvs w h (pos w h 2 0 0 0)).filter (fun m => decide (m ∈ g)) = g ∧ (∀ a ∈ g, ∀ b ∈ g, aft w h a b ∈ g) ∧ Mv.one ∈ g := by
  constructor
  · intro hg
    exact ⟨hg.has, ris_mvs hs hg.has hg.ris, fun a ha b hb => hg.gen _ (.step ha (Gen.self hs hg.has hb)), hg.gen _ .one⟩
  · rintro ⟨hh, he, hc, h1⟩
    refine ⟨hh, by rw [← he]; exact List.Pairwise.filter _ (mvs_ris hs), fun m hm => ?_⟩
    induction hm with
    | one => exact h1
    | step hm _ ih => exact hc _ hm _ ih
end
end Go.Proofs.Ytgjanbgehbpciaa
