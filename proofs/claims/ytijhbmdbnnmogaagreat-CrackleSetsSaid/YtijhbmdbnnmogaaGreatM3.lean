/- What pairs connect: the names of the reference as mathematics. · Walks: different, Euler. -/
import Derived.Test.YtijhbmdbnnmogaaGreatM1
import Derived.Test.YtijhbmdbnnmogaaGreatM2
namespace Go.Proofs.YtijhbmdbnnmogaaGreat.G
open Go.RowKit

theorem pig : ∀ (n : Nat) (g : Nat → Nat), (∀ i, i ≤ n → g i < n) → ∃ a b, a < b ∧ b ≤ n ∧ g a = g b
  | 0, g, h => absurd (h 0 (Nat.le_refl _)) (by omega)
  | n + 1, g, h => by
    by_cases c : ∃ i, i ≤ n ∧ g i = g (n + 1)
    · obtain ⟨i, h1, h2⟩ := c; exact ⟨i, n + 1, by omega, Nat.le_refl _, h2⟩
    · have hno : ∀ i, i ≤ n → g i ≠ g (n + 1) := fun i hi e => c ⟨i, hi, e⟩
      obtain ⟨a, b, h1, h2, h3⟩ := pig n (fun i => if g i = n then g (n + 1) else g i) (fun i hi => by
        have := h i (by omega); have := h (n + 1) (Nat.le_refl _); have := hno i hi
        split <;> omega)
      refine ⟨a, b, h1, by omega, ?_⟩
      have h4 := hno a (by omega); have h5 := hno b h2
      split at h3 <;> split at h3 <;> omega
def itr (f : Nat → Nat) : Nat → Nat → Nat
  | 0, e => e
  | k + 1, e => f (itr f k e)
theorem itr_lt {n : Nat} {f : Nat → Nat} (hf : ∀ d, d < n → f d < n) {e : Nat} (he : e < n) : ∀ k, itr f k e < n
  | 0 => he
  | k + 1 => hf _ (itr_lt hf he k)
/-- a step that is one-to-one comes back -/
theorem itr_back {n : Nat} {f : Nat → Nat} (hf : ∀ d, d < n → f d < n) (hi : ∀ a b, a < n → b < n → f a = f b → a = b) {d : Nat} (hd : d < n) : ∃ k, itr f k (f d) = d := by
  obtain ⟨a, b, h1, h2, h3⟩ := pig n (fun k => itr f k (f d)) (fun k _ => itr_lt hf (hf d hd) k)
  have key : ∀ a c, itr f a (f d) = itr f (a + c) (f d) → f d = itr f c (f d) := by
    intro a
    induction a with
    | zero => intro c h; rw [Nat.zero_add] at h; exact h
    | succ a ih =>
      intro c h
      refine ih c (hi _ _ (itr_lt hf (hf d hd) _) (itr_lt hf (hf d hd) _) ?_)
      rw [show a + 1 + c = (a + c) + 1 from by omega] at h
      exact h
  have h4 := key a (b - a) (by rw [show a + (b - a) = b from by omega]; exact h3)
  obtain ⟨c, hc⟩ : ∃ c, b - a = c + 1 := ⟨b - a - 1, by omega⟩
  rw [hc] at h4
  exact ⟨c, (hi _ _ hd (itr_lt hf (hf d hd) c) h4).symm⟩
section
variable {n k : Nat} {st : Nat → Nat → Nat}
theorem Rch.back (hst : ∀ i, i < k → ∀ d, d < n → st i d < n) (hin : ∀ i, i < k → ∀ a b, a < n → b < n → st i a = st i b → a = b) {l d : Nat} (h : Rch n k st l d) : Rch n k st d l := by
  induction h with
  | here h => exact .here h
  | @step e i hr hi ih =>
    have he := hr.lt hst
    obtain ⟨c, hc⟩ := itr_back (hst i hi) (hin i hi) he
    have h1 : Rch n k st (st i e) (itr (st i) c (st i e)) := by
      clear hc
      induction c with
      | zero => exact .here (hst i hi e he)
      | succ c ih => exact ih.step hi
    rw [hc] at h1
    exact h1.trans ih
/-- joined by the pairs p k, q k -/
inductive Cj (np : Nat) (p q : Nat → Nat) : Nat → Nat → Prop
  | refl (a : Nat) : Cj np p q a a
  | fwd {a i : Nat} : Cj np p q a (p i) → i < np → Cj np p q a (q i)
  | bwd {a i : Nat} : Cj np p q a (q i) → i < np → Cj np p q a (p i)
variable {np : Nat} {p q : Nat → Nat}
theorem Cj.trans {a b c : Nat} (h : Cj np p q a b) (g : Cj np p q b c) : Cj np p q a c := by
  induction g with
  | refl => exact h
  | fwd _ hi ih => exact ih.fwd hi
  | bwd _ hi ih => exact ih.bwd hi
theorem Cj.symm {a b : Nat} (h : Cj np p q a b) : Cj np p q b a := by
  induction h with
  | refl => exact .refl _
  | @fwd i _ hi ih => exact ((Cj.refl (q i)).bwd hi).trans ih
  | @bwd i _ hi ih => exact ((Cj.refl (p i)).fwd hi).trans ih
/-- the search for the lowest: each number is joined to its place, and no greater -/
def Lw (n np : Nat) (p q : Nat → Nat) (x : Nat → Int) : Prop := ∀ d, d < n → ∃ v : Nat, x d = v ∧ v ≤ d ∧ Cj np p q d v
theorem Lw.start (n np : Nat) (p q : Nat → Nat) : Lw n np p q (fun d => (d : Int)) := fun d _ => ⟨d, rfl, Nat.le_refl _, .refl _⟩
theorem Lw.congr {x y : Nat → Int} (h : Lw n np p q x) (e : ∀ j, j < n → x j = y j) : Lw n np p q y := fun d hd => by rw [← e d hd]; exact h d hd
/-- the sum of the first n numbers -/
def smN (x : Nat → Int) : Nat → Nat
  | 0 => 0
  | n + 1 => smN x n + (x n).toNat
theorem smN_congr {x y : Nat → Int} : ∀ n, (∀ j, j < n → x j = y j) → smN x n = smN y n
  | 0, _ => rfl
  | n + 1, h => by unfold smN; rw [smN_congr n (fun j hj => h j (by omega)), h n (by omega)]
theorem smN_up {x : Nat → Int} {d : Nat} {v : Int} : ∀ n, d < n → smN (up x d v) n + (x d).toNat = smN x n + v.toNat
  | 0, h => by omega
  | n + 1, h => by
    unfold smN
    by_cases e : d = n
    · subst e
      rw [smN_congr d (y := x) (fun j hj => up_ne _ _ (by omega)), up_self]; omega
    · have := smN_up (x := x) (v := v) n (by omega : d < n)
      rw [up_ne _ _ (show n ≠ d from fun c => e c.symm)]
      omega
theorem Lw.step {x : Nat → Int} (h : Lw n np p q x) {i : Nat} (hi : i < np) (hp : p i < n) (hq : q i < n) {a : Int} (ha : a = min (x (p i)) (x (q i))) : Lw n np p q (up (up x (p i) a) (q i) a) := by
  obtain ⟨v, hv, hv1, hv2⟩ := h (p i) hp
  obtain ⟨u, hu, hu1, hu2⟩ := h (q i) hq
  have h1 : Cj np p q (p i) (q i) := (Cj.refl _).fwd hi
  obtain ⟨m, hm, hm1, hm2⟩ : ∃ m : Nat, a = m ∧ m ≤ v ∧ m ≤ u := ⟨min v u, by rw [ha, hv, hu]; omega, by omega, by omega⟩
  have hmc : m = v ∨ m = u := by rw [hv, hu, hm] at ha; omega
  have hpm : Cj np p q (p i) m := by rcases hmc with e | e <;> rw [e]; exact hv2; exact h1.trans hu2
  have hqm : Cj np p q (q i) m := h1.symm.trans hpm
  intro d hd
  by_cases e : d = q i
  · subst e; exact ⟨m, by rw [up_self, hm], by omega, hqm⟩
  · rw [up_ne _ _ e]
    by_cases e2 : d = p i
    · subst e2; exact ⟨m, by rw [up_self, hm], by omega, hpm⟩
    · rw [up_ne _ _ e2]; exact h d hd
theorem Lw.less {x : Nat → Int} (h : Lw n np p q x) {i : Nat} (hp : p i < n) (hq : q i < n) {a : Int} (ha : a = min (x (p i)) (x (q i))) (hne : x (p i) ≠ a ∨ x (q i) ≠ a) : smN (up (up x (p i) a) (q i) a) n < smN x n := by
  obtain ⟨v, hv, -, -⟩ := h (p i) hp
  obtain ⟨u, hu, -, -⟩ := h (q i) hq
  have h1 := smN_up (x := x) (v := a) n hp
  have h2 := smN_up (x := up x (p i) a) (v := a) n hq
  by_cases e : q i = p i
  · rw [e] at ha hu hne ⊢; omega
  · rw [up_ne _ _ e] at h2
    omega
/-- at the end all pairs have one name: it is the least of those that are joined -/
theorem Lw.done {x : Nat → Int} (h : Lw n np p q x) (hpq : ∀ i, i < np → p i < n ∧ q i < n) (he : ∀ i, i < np → x (p i) = x (q i)) {d : Nat} (hd : d < n) :
    ∃ v : Nat, x d = v ∧ Cj np p q d v ∧ ∀ e, Cj np p q d e → v ≤ e := by
  have key : ∀ a b, Cj np p q a b → a < n → b < n ∧ x a = x b := fun a b hc ha => by
    induction hc with
    | refl => exact ⟨ha, rfl⟩
    | @fwd i _ hi ih => exact ⟨(hpq i hi).2, ih.2.trans (he i hi)⟩
    | @bwd i _ hi ih => exact ⟨(hpq i hi).1, ih.2.trans (he i hi).symm⟩
  obtain ⟨v, hv, hv1, hv2⟩ := h d hd
  refine ⟨v, hv, hv2, fun e hc => ?_⟩
  obtain ⟨h1, h2⟩ := key d e hc hd
  obtain ⟨u, hu, hu1, -⟩ := h e h1
  omega
/-- pairs of all darts with what steps make of them join just what can be reached -/
theorem Cj.rch (hst : ∀ i, i < k → ∀ d, d < n → st i d < n) (hin : ∀ i, i < k → ∀ a b, a < n → b < n → st i a = st i b → a = b)
    (hpq : ∀ i, i < np → p i < n ∧ ∃ j, j < k ∧ q i = st j (p i)) {a b : Nat} (ha : a < n) (h : Cj np p q a b) : Rch n k st a b := by
  induction h with
  | refl => exact .here ha
  | @fwd i _ hi ih =>
    obtain ⟨-, j, hj, e⟩ := hpq i hi
    rw [e]; exact ih.step hj
  | @bwd i _ hi ih =>
    obtain ⟨h1, j, hj, e⟩ := hpq i hi
    rw [e] at ih
    exact ih.trans (Rch.back hst hin ((Rch.here h1).step hj))
theorem Rch.cj (hall : ∀ j, j < k → ∀ d, d < n → ∃ i, i < np ∧ p i = d ∧ q i = st j d) (hst : ∀ i, i < k → ∀ d, d < n → st i d < n) {a b : Nat} (h : Rch n k st a b) : Cj np p q a b := by
  induction h with
  | here _ => exact .refl _
  | @step e j hr hj ih =>
    obtain ⟨i, hi, e1, e2⟩ := hall j hj e (hr.lt hst)
    rw [← e2]; rw [← e1] at ih; exact ih.fwd hi
/-- so the reference's names are the program's -/
theorem Lw.nm {x : Nat → Int} {m : Nat → Nat} (h : Lw n np p q x) (hst : ∀ i, i < k → ∀ d, d < n → st i d < n) (hin : ∀ i, i < k → ∀ a b, a < n → b < n → st i a = st i b → a = b)
    (hpq : ∀ i, i < np → p i < n ∧ ∃ j, j < k ∧ q i = st j (p i)) (hall : ∀ j, j < k → ∀ d, d < n → ∃ i, i < np ∧ p i = d ∧ q i = st j d)
    (he : ∀ i, i < np → x (p i) = x (q i)) (hm : Nm n k st m) {d : Nat} (hd : d < n) : x d = (m d : Nat) := by
  obtain ⟨v, hv, h1, h2⟩ := h.done (fun i hi => ⟨(hpq i hi).1, by obtain ⟨hp, j, hj, e⟩ := hpq i hi; rw [e]; exact hst j hj _ hp⟩) he hd
  have g1 := (hm d hd).1
  have g2 := (hm d hd).2 v (Rch.back hst hin (h1.rch hst hin hpq hd))
  have g3 := h2 (m d) ((Rch.back hst hin g1).cj hall hst)
  omega
end
end Go.Proofs.YtijhbmdbnnmogaaGreat.G
namespace Go.Proofs.YtijhbmdbnnmogaaGreat.G
open Go.RowKit

/-- the steps: around a face, and both of a part -/
def fl (f : Nat → Int) (d : Nat) : Nat := tn f (rev d)
def pt (f : Nat → Int) (i d : Nat) : Nat := if i = 0 then tn f d else rev d
theorem Mp.fl_lt {n : Nat} {f : Nat → Int} (h : Mp n f) {d : Nat} (hd : d < n) : fl f d < n := h.tn_lt (rev_lt h.even hd)
theorem Mp.pt_lt {n : Nat} {f : Nat → Int} (h : Mp n f) (i : Nat) {d : Nat} (hd : d < n) : pt f i d < n := by
  unfold pt; split
  · exact h.tn_lt hd
  · exact rev_lt h.even hd
theorem names_follow (n : Nat) (f : Nat → Int) (NV : Value) (b : Nat) (W : World) (hN : Il W NV n f) (hM : Mp n f) (hb : W.heap[b]? = some (.cells #[.func (.func 114) #[.agg #[NV]] #[]] 145 (0, 0))) :
    Calls Tryz.prog 107 #[.agg #[NV], .slice (some ⟨b, 0, none⟩) 1 1] W fun e W' => ∃ (m : Nat → Nat) (g : Nat), e = .returned (.slice (some ⟨g, 0, none⟩) n n) ∧ W.heap.size ≤ g ∧ BI W' g n (fun d => ((m d : Nat) : Int)) ∧ Nm n 1 (fun _ => fl f) m ∧ Ext W W' := by
  obtain ⟨u0, -, ul⟩ := uno hb
  refine names_any n 1 f (fun _ => fl f) (fun _ => 114) (fun _ => #[.agg #[NV]]) NV _ W hN (by have := hM.le; omega) (by omega) ⟨_, 1, rfl, Nat.le_refl _, by omega, fun _ => ⟨b, 0, rfl, ul, fun j hj => ?_⟩⟩ (fun _ _ d hd => hM.fl_lt hd) (fun _ _ => call32) (fun _ _ X hX d hd => ?_)
  · obtain rfl : j = 0 := by omega
    exact u0
  · refine (follow_any n f NV d X (hN.ext hX) hd (by have := hM.le; omega) hM.even).mono ?_
    rintro e w ⟨rfl, h⟩
    exact ⟨by unfold fl; rw [hM.tn_eq (rev_lt hM.even hd)], h⟩
theorem names_part (n : Nat) (f : Nat → Int) (NV : Value) (b : Nat) (W : World) (hN : Il W NV n f) (hM : Mp n f) (hb : W.heap[b]? = some (.cells #[.func (.func 108) #[.agg #[NV]] #[], .func (.func 115) #[] #[]] 145 (0, 0))) :
    Calls Tryz.prog 107 #[.agg #[NV], .slice (some ⟨b, 0, none⟩) 2 2] W fun e W' => ∃ (m : Nat → Nat) (g : Nat), e = .returned (.slice (some ⟨g, 0, none⟩) n n) ∧ W.heap.size ≤ g ∧ BI W' g n (fun d => ((m d : Nat) : Int)) ∧ Nm n 2 (pt f) m ∧ Ext W W' := by
  obtain ⟨u0, u1, -, ul⟩ := two hb
  refine names_any n 2 f (pt f) (fun i => if i = 0 then 108 else 115) (fun i => if i = 0 then #[.agg #[NV]] else #[]) NV _ W hN (by have := hM.le; omega) (by omega) ⟨_, 2, rfl, Nat.le_refl _, by omega, fun _ => ⟨b, 0, rfl, ul, fun j hj => ?_⟩⟩ (fun i _ d hd => hM.pt_lt i hd) (fun i _ => ?_) (fun i _ X hX d hd => ?_)
  · rcases (show j = 0 ∨ j = 1 by omega) with rfl | rfl
    · exact u0
    · exact u1
  · by_cases e : i = 0
    · rw [if_pos e]; exact call30
    · rw [if_neg e]; exact call33
  · by_cases e : i = 0
    · rw [if_pos e, if_pos e]
      unfold pt
      rw [if_pos e]
      refine (turn_any n f NV d X (hN.ext hX) hd).mono ?_
      rintro e w ⟨rfl, h⟩
      exact ⟨by rw [hM.tn_eq hd], h⟩
    · rw [if_neg e, if_neg e]
      unfold pt
      rw [if_neg e]
      refine (opposite_any d X (by have := hM.le; omega)).mono ?_
      rintro e w ⟨rfl, rfl⟩
      exact ⟨rfl, Ext.refl _⟩

set_option maxHeartbeats 4000000 in
set_option maxRecDepth 100000 in
theorem different_any (n : Nat) (m : Nat → Nat) (NV : Value) (W : World) (hN : Il W NV n (fun d => ((m d : Nat) : Int))) (hn : n ≤ 1000) :
    Calls Tryz.prog 113 #[NV] W fun e W' => e = .returned (.int .i64 (rank m n : Nat)) ∧ Ext W W' := by
  have HN := Lib.hid hN
  obtain ⟨A, c, rfl, hac, hcm, -⟩ := hN
  go_enter Tryz.func113, Tryz.ntmps113
  go_wp2_with fail
  go_loopw [3, 8] (fun t i wr => ∃ k : Nat, i = .int .i64 k ∧ k ≤ n ∧ t = .int .i64 (rank m k : Nat) ∧ Hid (Ext W wr)) (fun _ i _ => n - (intOf i).toNat)
  case atStart => exact ⟨0, rfl, Nat.zero_le _, rfl, Lib.hid (Ext.refl _)⟩
  case round =>
    obtain ⟨k, rfl, hk, rfl, hin⟩ := hrel
    obtain ⟨r, hr⟩ : ∃ r, r = rank m k := ⟨_, rfl⟩
    have hr2 : r ≤ 1000 := by have := rank_le m k; omega
    rw [← hr]
    have HR := Lib.hid hr
    clear hr
    by_cases hlt : k < n
    · obtain ⟨b1, o1, rfl, -, e1⟩ := Vl.at HN.out hin.out hlt
      dsimp only at e1
      obtain ⟨z, hz⟩ : ∃ z, z = m k := ⟨_, rfl⟩
      rw [← hz] at e1
      have HZ := Lib.hid hz
      clear hz
      by_cases h : z = k
      · subst h
        have hbe : ((z : Int) == (z : Int)) = true := by simp
        go_wp2
        go_roundw
        case rel => exact ⟨z + 1, by go_num, by omega, by rw [show rank m (z + 1) = r + 1 by unfold rank; rw [if_pos HZ.out.symm, HR.out]]; simp, Lib.hid hin.out⟩
        case measure => simp [intOf]; omega
      · have hbe : ((z : Int) == (k : Int)) = false := by simp; omega
        go_wp2
        go_roundw
        case rel => exact ⟨k + 1, by go_num, by omega, by rw [show rank m (k + 1) = r by conv => lhs; unfold rank
                                                                                         rw [if_neg (fun e => h (by rw [HZ.out]; exact e)), Nat.add_zero, HR.out]], Lib.hid hin.out⟩
        case measure => simp [intOf]; omega
    · obtain rfl : k = n := by omega
      go_wp2
      go_ret
      exact ⟨by rw [← HR.out]; rfl, hin.out⟩

set_option maxHeartbeats 4000000 in
set_option maxRecDepth 100000 in
theorem euler_any (n : Nat) (f : Nat → Int) (NV : Value) (W : World) (hN : Il W NV n f) :
    Calls Tryz.prog 53 #[.agg #[NV]] W fun e W' => ∃ v q w p er : Int, e = .returned (.tuple #[.int .i64 v, .int .i64 q, .int .i64 w, .int .i64 p, .int .i64 er]) ∧ Ext W W' ∧
      ((vMap n f = false ∧ v = 0 ∧ q = 0 ∧ w = 0 ∧ p = 0 ∧ er = 2) ∨ (vMap n f = true ∧ er = 0 ∧ q = ((n / 2 : Nat) : Int) ∧ ∃ mv mf mp, Nm n 1 (fun _ => tn f) mv ∧ Nm n 1 (fun _ => fl f) mf ∧ Nm n 2 (pt f) mp ∧ v = (rank mv n : Nat) ∧ w = (rank mf n : Nat) ∧ p = (rank mp n : Nat))) := by
  have HN := Lib.hid hN
  obtain ⟨A, c, rfl, hac, hcm, -⟩ := hN
  go_enter Tryz.func53, Tryz.ntmps53
  go_upto_region 1 with fail
  have bb := al1 W (.cells #[.slice A n c] 29)
  obtain ⟨m0, -, mz⟩ := uno (heap_alloc_new W (.cells #[.slice A n c] 29))
  generalize W.alloc (.cells #[.slice A n c] 29) = W1 at *
  have HB : Hid (Ext W W1) := Lib.hid bb
  have HM := Lib.hid m0
  clear bb
  go_wp2_with fail
  refine (validS_any n f _ _ (HN.out.ext HB.out)).mono ?_
  rintro e w1 ⟨rfl, hx⟩
  have HX : Hid (Ext W1 w1) := Lib.hid hx
  clear m0
  have m0 := keepAt hx mz HM.out
  clear hx
  cases hv : vMap n f
  · have HV := Lib.hid hv; clear hv
    go_wp2
    refine bodyPost_ret (v := .tuple #[.int .i64 0, .int .i64 0, .int .i64 0, .int .i64 0, .int .i64 2]) (by simp [results, Tryz.results53, go_sem]) rfl ⟨0, 0, 0, 0, 2, rfl, HB.out.trans HX.out, .inl ⟨HV.out, rfl, rfl, rfl, rfl, rfl⟩⟩
  · have hM := vMap_mp hv
    have hn : n ≤ 80 := hM.le
    have HV := Lib.hid (And.intro hv hM)
    clear hv hM
    go_wp2_with fail
    have h1 := heap_alloc_new w1 (.cells #[.func (.func 108) #[.agg #[.slice A n c]] #[]] 145)
    have e1 : Ext w1 (w1.alloc (.cells #[.func (.func 108) #[.agg #[.slice A n c]] #[]] 145)) := Ext.alc (Ext.refl _) _
    refine (names_turn n f (.slice A n c) w1.heap.size _ (HN.out.ext (HB.out.trans (HX.out.trans e1))) HV.out.2 h1).mono ?_
    rintro e w2 ⟨k1, g1, rfl, -, hb, hnm, hx⟩
    have HB1 := Lib.hid hb
    replace HX : Hid (Ext W1 w2) := Lib.hid (HX.out.trans (e1.trans hx))
    have HNM1 := Lib.hid hnm
    clear h1 e1 hb hx hnm m0
    go_wp2_with fail
    refine (different_any n k1 _ _ (HB1.out.il (by omega)) (by omega)).mono ?_
    rintro e w2' ⟨rfl, hx⟩
    obtain ⟨r1, hr⟩ : ∃ r, r = rank k1 n := ⟨_, rfl⟩
    rw [← hr]
    have HR1 := Lib.hid (And.intro hr HNM1.out)
    replace HX : Hid (Ext W1 w2') := Lib.hid (HX.out.trans hx)
    have m0 := keepAt HX.out mz HM.out
    clear hx hr HB1 HNM1
    go_wp2_with fail
    have h2 := heap_alloc_new w2' (.cells #[.func (.func 114) #[.agg #[.slice A n c]] #[]] 145)
    have e2 : Ext w2' (w2'.alloc (.cells #[.func (.func 114) #[.agg #[.slice A n c]] #[]] 145)) := Ext.alc (Ext.refl _) _
    refine (names_follow n f (.slice A n c) w2'.heap.size _ (HN.out.ext (HB.out.trans (HX.out.trans e2))) HV.out.2 h2).mono ?_
    rintro e w3 ⟨k2, g2, rfl, -, hb, hnm, hx⟩
    have HB2 := Lib.hid hb
    replace HX : Hid (Ext W1 w3) := Lib.hid (HX.out.trans (e2.trans hx))
    have HNM2 := Lib.hid hnm
    clear h2 e2 hb hx hnm m0
    go_wp2_with fail
    refine (different_any n k2 _ _ (HB2.out.il (by omega)) (by omega)).mono ?_
    rintro e w3' ⟨rfl, hx⟩
    obtain ⟨r2, hr⟩ : ∃ r, r = rank k2 n := ⟨_, rfl⟩
    rw [← hr]
    have HR2 := Lib.hid (And.intro hr HNM2.out)
    replace HX : Hid (Ext W1 w3') := Lib.hid (HX.out.trans hx)
    have m0 := keepAt HX.out mz HM.out
    clear hx hr HB2 HNM2
    go_wp2_with fail
    have h3 := heap_alloc_new w3' (.cells #[.func (.func 108) #[.agg #[.slice A n c]] #[], .func (.func 115) #[] #[]] 145)
    have e3 : Ext w3' (w3'.alloc (.cells #[.func (.func 108) #[.agg #[.slice A n c]] #[], .func (.func 115) #[] #[]] 145)) := Ext.alc (Ext.refl _) _
    refine (names_part n f (.slice A n c) w3'.heap.size _ (HN.out.ext (HB.out.trans (HX.out.trans e3))) HV.out.2 h3).mono ?_
    rintro e w4 ⟨k3, g3, rfl, -, hb, hnm, hx⟩
    have HB3 := Lib.hid hb
    replace HX : Hid (Ext W1 w4) := Lib.hid (HX.out.trans (e3.trans hx))
    have HNM3 := Lib.hid hnm
    clear h3 e3 hb hx hnm m0
    go_wp2_with fail
    refine (different_any n k3 _ _ (HB3.out.il (by omega)) (by omega)).mono ?_
    rintro e w4' ⟨rfl, hx⟩
    obtain ⟨r3, hr⟩ : ∃ r, r = rank k3 n := ⟨_, rfl⟩
    rw [← hr]
    have HR3 := Lib.hid (And.intro hr HNM3.out)
    replace HX : Hid (Ext W1 w4') := Lib.hid (HX.out.trans hx)
    have m0 := keepAt HX.out mz HM.out
    clear hx hr HB3 HNM3
    go_wp2_with fail
    refine (edges_any n f _ _ (HN.out.ext (HB.out.trans HX.out)) (by omega)).mono ?_
    rintro e w9 ⟨rfl, hx⟩
    obtain ⟨q, hq⟩ : ∃ q, q = n / 2 := ⟨_, rfl⟩
    rw [← hq]
    have HF := Lib.hid (And.intro (HB.out.trans (HX.out.trans hx)) hq)
    clear hx hq m0
    go_wp2
    refine bodyPost_ret (v := .tuple #[.int .i64 (r1 : Nat), .int .i64 (q : Nat), .int .i64 (r2 : Nat), .int .i64 (r3 : Nat), .int .i64 0]) (by simp [results, Tryz.results53, go_sem]) rfl ⟨r1, q, r2, r3, 0, rfl, HF.out.1, .inr ⟨HV.out.1, rfl, by rw [HF.out.2], k1, k2, k3, HR1.out.2, HR2.out.2, HR3.out.2, by rw [HR1.out.1], by rw [HR2.out.1], by rw [HR3.out.1]⟩⟩
end Go.Proofs.YtijhbmdbnnmogaaGreat.G
