/- Walks: madeOf. -/
import Derived.Test.YtgjanbgehbpciaaC1
namespace Go.Proofs.Ytgjanbgehbpciaa
open Go.RowKit

/-- how many are still false -/
def Cf (bs : List Bool) : Nat := bs.countP (fun b => !b)
theorem getD_set_b {bs : List Bool} {n k : Nat} (hn : n < bs.length) : (bs.set n true).getD k false = if k = n then true else bs.getD k false := by
  rw [List.getD_eq_getElem?_getD, List.getElem?_set, List.getD_eq_getElem?_getD]
  by_cases h : n = k
  · subst h; simp [hn]
  · have h' : ¬ k = n := fun e => h e.symm
    simp [h, h']
theorem Cf_set {bs : List Bool} {n : Nat} (hn : n < bs.length) (hf : bs.getD n false = false) : Cf (bs.set n true) + 1 = Cf bs := by
  unfold Cf
  rw [List.countP_set hn]
  have h1 : bs[n] = false := by rw [List.getD_eq_getElem?_getD, List.getElem?_eq_getElem hn] at hf; exact hf
  have hpos : 0 < bs.countP (fun b => !b) := List.countP_pos_iff.2 ⟨false, by rw [← h1]; exact List.getElem_mem _, rfl⟩
  rw [h1]
  simp
  omega

/-- what is known of the bools and of the stack -/
structure KI (w h : Nat) (ms : List Mv) (bs : List Bool) (fs : List Mv) : Prop where
  len : bs.length = pos w h 2 0 0 0
  sound : ∀ n, bs.getD n false = true → has w h (dec w h n) = true ∧ Gen w h ms (dec w h n)
  one : bs.getD (nm w h Mv.one) false = true
  stk : ∀ g ∈ fs, has w h g = true ∧ bs.getD (nm w h g) false = true
/-- what is not on the stack is done -/
def KO (w h : Nat) (ms : List Mv) (bs : List Bool) (fs : List Mv) : Prop := KI w h ms bs fs ∧ ∀ g, has w h g = true → bs.getD (nm w h g) false = true → g ∉ fs → ∀ m ∈ ms, bs.getD (nm w h (aft w h m g)) false = true
/-- the same, but that one move is done with j makers -/
def KJ (w h : Nat) (ms : List Mv) (bs : List Bool) (fs : List Mv) (last : Mv) (j : Nat) : Prop :=
  KI w h ms bs fs ∧ has w h last = true ∧ Gen w h ms last ∧ (∀ g, has w h g = true → bs.getD (nm w h g) false = true → g ∉ fs → g ≠ last → ∀ m ∈ ms, bs.getD (nm w h (aft w h m g)) false = true) ∧
    ∀ i m, i < j → ms[i]? = some m → bs.getD (nm w h (aft w h m last)) false = true
section
variable {w h : Nat} {ms : List Mv} {bs : List Bool} {fs : List Mv} {last : Mv} {j : Nat}
theorem KI.gen (hk : KI w h ms bs fs) {g : Mv} (hg : has w h g = true) (hb : bs.getD (nm w h g) false = true) : Gen w h ms g := by
  have := (hk.sound _ hb).2
  rwa [dec_nm hg] at this
theorem KO.pop (hk : KO w h ms bs (fs ++ [last])) : KJ w h ms bs fs last 0 := by
  obtain ⟨h1, h2⟩ := hk
  have hl := h1.stk last (by simp)
  refine ⟨⟨h1.len, h1.sound, h1.one, fun g hg => h1.stk g (by simp [hg])⟩, hl.1, h1.gen hl.1 hl.2, fun g hg hb hf hne => h2 g hg hb (by simp [hf, hne]), fun i m hi => by omega⟩
theorem KJ.done (hk : KJ w h ms bs fs last ms.length) : KO w h ms bs fs := by
  obtain ⟨h1, h2, h3, h4, h5⟩ := hk
  refine ⟨h1, fun g hg hb hf m hm => ?_⟩
  by_cases hl : g = last
  · subst hl
    obtain ⟨i, hi⟩ := List.getElem?_of_mem hm
    exact h5 i m (List.getElem?_eq_some_iff.1 hi).1 hi
  · exact h4 g hg hb hf hl m hm
theorem KJ.old (hk : KJ w h ms bs fs last j) {m : Mv} (hm : ms[j]? = some m) (hb : bs.getD (nm w h (aft w h m last)) false = true) : KJ w h ms bs fs last (j + 1) := by
  obtain ⟨h1, h2, h3, h4, h5⟩ := hk
  refine ⟨h1, h2, h3, h4, fun i m' hi hm' => ?_⟩
  rcases Nat.lt_or_ge i j with h | h
  · exact h5 i m' h hm'
  · obtain rfl : i = j := by omega
    rw [hm] at hm'; injection hm' with hm'; rw [← hm']; exact hb
theorem KJ.new (hs : okSize w h = true) (hms : ∀ m ∈ ms, has w h m = true) (hk : KJ w h ms bs fs last j) {m : Mv} (hm : ms[j]? = some m) :
    KJ w h ms (bs.set (nm w h (aft w h m last)) true) (fs ++ [aft w h m last]) last (j + 1) := by
  obtain ⟨h1, h2, h3, h4, h5⟩ := hk
  have hmm := List.mem_of_getElem? hm
  have hx := aft_has hs (hms m hmm) h2
  have hn : nm w h (aft w h m last) < bs.length := by rw [h1.len]; exact nm_bd hx
  have hmono : ∀ k, bs.getD k false = true → (bs.set (nm w h (aft w h m last)) true).getD k false = true := fun k hb => by rw [getD_set_b hn]; split <;> simp_all
  refine ⟨⟨by rw [List.length_set]; exact h1.len, fun k hb => ?_, hmono _ h1.one, fun g hg => ?_⟩, h2, h3, fun g hg hb hf hne m' hm' => ?_, fun i m' hi hm' => ?_⟩
  · rw [getD_set_b hn] at hb
    by_cases e : k = nm w h (aft w h m last)
    · rw [e, dec_nm hx]; exact ⟨hx, .step hmm h3⟩
    · rw [if_neg e] at hb; exact h1.sound k hb
  · rw [List.mem_append, List.mem_singleton] at hg
    rcases hg with hg | rfl
    · exact ⟨(h1.stk g hg).1, hmono _ (h1.stk g hg).2⟩
    · exact ⟨hx, by rw [getD_set_b hn, if_pos rfl]⟩
  · simp only [List.mem_append, List.mem_singleton, not_or] at hf
    rw [getD_set_b hn] at hb
    have hne2 : nm w h g ≠ nm w h (aft w h m last) := fun e => hf.2 (nm_inj hg hx e)
    rw [if_neg hne2] at hb
    exact hmono _ (h4 g hg hb hf.1 hne m' hm')
  · rcases Nat.lt_or_ge i j with h | h
    · exact hmono _ (h5 i m' h hm')
    · obtain rfl : i = j := by omega
      rw [hm] at hm'; injection hm' with hm'; rw [← hm', getD_set_b hn, if_pos rfl]
/-- in the end the bools are what the makers make -/
def GB (w h : Nat) (ms : List Mv) (bs : List Bool) : Prop := bs.length = pos w h 2 0 0 0 ∧ ∀ g, has w h g = true → (bs.getD (nm w h g) false = true ↔ Gen w h ms g)
theorem KO.gb (hs : okSize w h = true) (hms : ∀ m ∈ ms, has w h m = true) (hk : KO w h ms bs []) : GB w h ms bs ∧ ∀ n, bs.getD n false = true → has w h (dec w h n) = true := by
  obtain ⟨h1, h2⟩ := hk
  refine ⟨⟨h1.len, fun g hg => ⟨h1.gen hg, fun hgen => ?_⟩⟩, fun n hb => (h1.sound n hb).1⟩
  clear hg
  induction hgen with
  | one => exact h1.one
  | step hm hg ih => exact h2 _ (hg.has_ hs hms) ih (by simp) _ hm
theorem KO.start (hs : okSize w h = true) : KO w h ms ((List.replicate (pos w h 2 0 0 0) false).set 0 true) [Mv.one] := by
  have hs' := okSize_iff.1 hs
  have h0 : nm w h Mv.one = 0 := by simp [nm, pos, Mv.one]
  have hlen : 0 < (List.replicate (pos w h 2 0 0 0) false).length := by
    have := nm_bd (one_has hs)
    rw [h0] at this
    rw [List.length_replicate]; exact this
  have hg : ∀ k, ((List.replicate (pos w h 2 0 0 0) false).set 0 true).getD k false = true → k = 0 := fun k hb => by
    rw [getD_set_b hlen] at hb
    by_cases e : k = 0
    · exact e
    · rw [if_neg e, List.getD_eq_getElem?_getD, List.getElem?_replicate] at hb
      split at hb <;> simp at hb
  have hone : ((List.replicate (pos w h 2 0 0 0) false).set 0 true).getD (nm w h Mv.one) false = true := by rw [h0, getD_set_b hlen, if_pos rfl]
  have hd : dec w h 0 = Mv.one := by have := dec_nm (one_has hs); rwa [h0] at this
  refine ⟨⟨by simp, fun n hb => ?_, hone, fun g hg' => ?_⟩, fun g hg' hb hf => ?_⟩
  · rw [hg n hb, hd]; exact ⟨one_has hs, .one⟩
  · rw [List.mem_singleton] at hg'; subst hg'; exact ⟨one_has hs, hone⟩
  · exact absurd (by rw [List.mem_singleton]; exact nm_inj hg' (one_has hs) (by rw [h0]; exact hg _ hb)) hf
theorem KI.fs_len (hk : KI w h ms bs fs) : True := True.intro
end

/-- the stack -/
def Stk (wr : World) (B gf cap : Nat) (fs : List Mv) : Prop := wr.ownsRow B 31 4 (.slice (some ⟨gf, 0, none⟩) fs.length cap) fs.length (fs.flatMap mc)
theorem Stk.pop {wr : World} {B gf cap : Nat} {fs : List Mv} {m : Mv} (h : Stk wr B gf cap (fs ++ [m])) : Stk wr B gf cap fs := by
  obtain ⟨h1, h2 | ⟨g, cp, cur, he, hg, hh, hn, hcap, hsz, htake⟩⟩ := h
  · obtain ⟨he, _⟩ := h2; cases he
  · injection he with e1 e2 e3
    subst e3
    refine ⟨mc_len fs, .inr ⟨g, cap, cur, by rw [e1], hg, hh, by simp at hn; omega, hcap, hsz, ?_⟩⟩
    have := congrArg (List.take (fs.length * 4)) htake
    have e3 : min (fs.length * 4) ((fs ++ [m]).length * 4) = fs.length * 4 := by simp
    rw [List.take_take, e3, List.flatMap_append, List.take_append_of_le_length (by rw [mc_len]; exact Nat.le_refl _), List.take_of_length_le (l := fs.flatMap mc) (by rw [mc_len]; exact Nat.le_refl _)] at this
    exact this
theorem Stk.last {wr : World} {B gf cap : Nat} {fs : List Mv} {m : Mv} (h : Stk wr B gf cap (fs ++ [m])) : wr.cell? ⟨gf, fs.length * 4, none⟩ = some (.int .i64 m.dx) ∧ wr.cell? ⟨gf, fs.length * 4 + 1, none⟩ = some (.int .i64 m.dy) ∧ wr.cell? ⟨gf, fs.length * 4 + 2, none⟩ = some (.int .i64 m.t) ∧ wr.cell? ⟨gf, fs.length * 4 + 3, none⟩ = some (.bool m.f) := by
  have e : ∀ i, (⟨gf, 0, none⟩ : Addr).add i = ⟨gf, i, none⟩ := fun i => by unfold Addr.add; split <;> simp_all
  obtain ⟨a0, a1, a2, a3⟩ := mc_at (fs ++ [m]) fs.length m (by simp)
  refine ⟨?_, ?_, ?_, ?_⟩ <;> (rw [← e]; apply World.ownsRow.cells h rfl; assumption)
theorem Stk.cap {wr : World} {B gf cap : Nat} {fs : List Mv} (h : Stk wr B gf cap fs) : fs.length ≤ cap ∧ cap ≤ 9223372036854775807 ∧ B ≤ gf ∧ gf < wr.heap.size := by
  obtain ⟨h1, h2 | ⟨g, cp, cur, he, hg, hh, hn, hcap, hsz, htake⟩⟩ := h
  · obtain ⟨he, _⟩ := h2; cases he
  · injection he with e1 e2 e3
    injection e1 with e1
    injection e1 with e1
    subst e3 e1
    exact ⟨hn, by unfold maxLen at hcap; omega, hg, (Array.getElem?_eq_some_iff.1 hh).1⟩
theorem Stk.ext {X Y : World} {B gf cap : Nat} {fs : List Mv} (h : Stk X B gf cap fs) (e : Ext X Y) : Stk Y B gf cap fs := World.ownsRow.ext h e
theorem Stk.far {X : World} {B gf cap g i : Nat} {u : Value} {fs : List Mv} (h : Stk X B gf cap fs) (hne : g ≠ gf) : Stk (X.setCell ⟨g, i, none⟩ u) B gf cap fs := by
  obtain ⟨h1, h2 | ⟨g', cp, cur, he, hg, hh, rest⟩⟩ := h
  · obtain ⟨he, _⟩ := h2; cases he
  · refine ⟨h1, .inr ⟨g', cp, cur, he, hg, ?_, rest⟩⟩
    injection he with e1
    injection e1 with e1
    injection e1 with e1
    subst e1
    simp [World.setCell, Array.getElem?_modify, hh, hne]
end Go.Proofs.Ytgjanbgehbpciaa
