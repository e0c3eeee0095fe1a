/- A drawn region, each of its operations walked once: what an operation yields is told by a condition that every later world keeps. -/
import Derived.Test.YtijhbmdbnnmogaaGreatM0
import Derived.StillTail
import Derived.Deep.RegionHeld
namespace Go.Proofs.YtijhbmdbnnmogaaGreat.G
open Go

/-- a goal that no tactic looks into -/
structure Box (p : Prop) : Prop where
  out : p
/-- the slots of the operations, filled one after another -/
def fill : List (Option Tmp) → Nat → (Nat → Value) → Act → Act
  | [], _, _, a => a
  | d :: l, k, y, a => fill l (k + 1) y (a.put d (y k))
/-- no two operations have one slot -/
def dstOk : List (Option Tmp) → Bool
  | [] => true
  | o :: l => (match o with | none => true | some d => l.all fun o' => decide (o' ≠ some d)) && dstOk l
def upd (y : Nat → Value) (i : Nat) (v : Value) : Nat → Value := fun j => if j = i then v else y j
theorem upd_self (y : Nat → Value) (i : Nat) (v : Value) : upd y i v i = v := by simp [upd]
theorem upd_ne (y : Nat → Value) {i j : Nat} (v : Value) (h : j ≠ i) : upd y i v j = y j := by simp [upd, h]

theorem fill_congr : ∀ (l : List (Option Tmp)) (k : Nat) (y z : Nat → Value) (a : Act), (∀ j, k ≤ j → y j = z j) → fill l k y a = fill l k z a
  | [], _, _, _, _, _ => rfl
  | o :: l, k, y, z, a, h => by
    unfold fill
    rw [h k (Nat.le_refl _)]
    exact fill_congr l (k + 1) y z _ (fun j hj => h j (by omega))
theorem put_same (a : Act) (d : Option Tmp) (x v : Value) : (a.put d x).put d v = a.put d v := by
  cases d with
  | none => rfl
  | some d => simp [Act.put]
theorem fill_out (d : Tmp) (v : Value) : ∀ (l : List (Option Tmp)) (k : Nat) (y : Nat → Value) (a : Act), (∀ o ∈ l, o ≠ some d) → (fill l k y a).put (some d) v = fill l k y (a.put (some d) v)
  | [], _, _, _, _ => rfl
  | o :: l, k, y, a, h => by
    unfold fill
    rw [fill_out d v l (k + 1) y _ (fun o' ho => h o' (List.mem_cons_of_mem _ ho)), Act.put_comm a (y k) v (fun e he hd => h o (List.mem_cons_self ..) (he.trans hd.symm))]
theorem fill_put (v : Value) : ∀ (l : List (Option Tmp)) (k i : Nat) (y : Nat → Value) (a : Act) (o : Option Tmp), dstOk l = true → l[i]? = some o → (fill l k y a).put o v = fill l k (upd y (k + i) v) a
  | [], _, _, _, _, _, _, h => by simp at h
  | p :: l, k, 0, y, a, o, hd, h => by
    simp only [List.getElem?_cons_zero, Option.some.injEq] at h
    subst h
    unfold fill
    simp only [dstOk, Bool.and_eq_true] at hd
    simp only [Nat.add_zero]
    rw [upd_self, fill_congr l (k + 1) (upd y k v) y _ (fun j hj => upd_ne y v (by omega))]
    cases hp : p with
    | none => simp [Act.put]
    | some d =>
      rw [hp] at hd
      rw [fill_out d v l (k + 1) y _ (fun o' ho => by have := List.all_eq_true.1 hd.1 o' ho; simpa using this), put_same]
  | p :: l, k, i + 1, y, a, o, hd, h => by
    simp only [List.getElem?_cons_succ] at h
    unfold fill
    simp only [dstOk, Bool.and_eq_true] at hd
    rw [upd_ne y v (by omega : k ≠ k + (i + 1)), fill_put v l (k + 1) i y _ o hd.2 h, show k + 1 + i = k + (i + 1) by omega]
theorem put_own (a : Act) (d : Tmp) : a.put (some d) (a.tmps.getD d undef) = a := by
  cases a with
  | mk t df =>
    simp only [Act.put, Act.mk.injEq, and_true]
    apply Array.ext_getElem?
    intro i
    rw [Array.getElem?_setIfInBounds]
    split
    · rename_i h; subst h; split
      · rename_i h; simp [h]
      · rename_i h; simp [h]
    · rfl
def mine (l : List (Option Tmp)) (a : Act) (j : Nat) : Value := match l[j]? with | some (some d) => a.tmps.getD d undef | _ => undef
theorem fill_own (a : Act) : ∀ (l : List (Option Tmp)) (k : Nat) (y : Nat → Value), (∀ j d, l[j]? = some (some d) → y (k + j) = a.tmps.getD d undef) → fill l k y a = a
  | [], _, _, _ => rfl
  | o :: l, k, y, h => by
    unfold fill
    have e : a.put o (y k) = a := by
      cases o with
      | none => rfl
      | some d =>
        have := h 0 d (by simp)
        rw [Nat.add_zero] at this
        rw [this, put_own]
    rw [e]
    exact fill_own a l (k + 1) y (fun j d ho => by have := h (j + 1) d (by simpa using ho); rwa [show k + 1 + j = k + (j + 1) by omega])

/-- kept by worlds that grow -/
def Stays (r : Value → World → Prop) : Prop := ∀ v u w, Ext u w → r v u → r v w
theorem Stays.eq (c : Value) : Stays (fun v _ => v = c) := fun _ _ _ _ h => h
theorem Stays.pure (p : Value → Prop) : Stays (fun v _ => p v) := fun _ _ _ _ h => h
theorem Stays.true : Stays (fun _ _ => True) := fun _ _ _ _ h => h
def Stay : List (Value → World → Prop) → Prop
  | [] => True
  | r :: l => Stays r ∧ Stay l
def At (R : List (Value → World → Prop)) (j : Nat) : Value → World → Prop := R.getD j (fun _ _ => True)
theorem Stay.get : ∀ {R : List (Value → World → Prop)}, Stay R → ∀ j v u w, Ext u w → At R j v u → At R j v w
  | [], _, _, _, _, _, _, h => h
  | _ :: _, h, 0, v, u, w, e, hr => h.1 v u w e hr
  | _ :: l, h, j + 1, v, u, w, e, hr => Stay.get (R := l) h.2 j v u w e hr
def Facts (R : List (Value → World → Prop)) (y : Nat → Value) (w : World) : List Nat → Prop
  | [] => True
  | j :: l => At R j (y j) w ∧ Facts R y w l
def waits (md : Region.Mode) (o : Oper) : List Nat := ((o.after.toList.filter (Region.binds md)).map (·.on)).eraseDups
theorem Facts.of {R : List (Value → World → Prop)} {y : Nat → Value} {w : World} : ∀ {l : List Nat}, (∀ j ∈ l, At R j (y j) w) → Facts R y w l
  | [], _ => True.intro
  | j :: _, h => ⟨h j (List.mem_cons_self ..), Facts.of (fun i hi => h i (List.mem_cons_of_mem _ hi))⟩

theorem List.nodup_of_map' {α β : Type} {f : α → β} : ∀ {l : List α}, (l.map f).Nodup → l.Nodup
  | [], _ => List.nodup_nil
  | a :: l, h => by
    rw [List.map_cons, List.nodup_cons] at h
    exact List.nodup_cons.2 ⟨fun hm => h.1 (List.mem_map_of_mem hm), List.nodup_of_map' h.2⟩
theorem List.inj_on_of_nodup_map' {α β : Type} {f : α → β} : ∀ {l : List α}, (l.map f).Nodup → ∀ {a b : α}, a ∈ l → b ∈ l → f a = f b → a = b
  | [], _, _, _, h, _, _ => by cases h
  | c :: l, hn, a, b, ha, hb, he => by
    rw [List.map_cons, List.nodup_cons] at hn
    rcases List.mem_cons.1 ha with h1 | h1
    · rcases List.mem_cons.1 hb with h2 | h2
      · exact h1.trans h2.symm
      · exact absurd (by rw [← h1, he]; exact List.mem_map_of_mem h2) hn.1
    · rcases List.mem_cons.1 hb with h2 | h2
      · exact absurd (by rw [← h2, ← he]; exact List.mem_map_of_mem h1) hn.1
      · exact List.inj_on_of_nodup_map' hn.2 h1 h2 he
theorem List.Nodup.sublist' {α : Type} {k l : List α} (h : k.Sublist l) (hn : l.Nodup) : k.Nodup := hn.sublist h

section
variable {P : Program} {md : Region.Mode} {Q : Exit → Act → World → Prop} {R : List (Value → World → Prop)} {foot : List (Value → List Nat)} {w0 : World} {a0 : Act} {l : List Oper} {m : Nat} {fol : List (Nat × Nat)} {ds : List (Option Tmp)} {own : List Nat}

def foots (foot : List (Value → List Nat)) (j : Nat) (v : Value) : List Nat := foot.getD j (fun _ => []) v
/-- a block is new, or that of an operation that was waited for -/
def New (own : List Nat) (foot : List (Value → List Nat)) (ns : List Nat) (y : Nat → Value) (i : Nat) (w w' : World) (b : Nat) : Prop :=
  (w.heap.size ≤ b ∧ b < w'.heap.size) ∨ (i ∉ own ∧ ∃ t ∈ ns, t ∉ own ∧ b ∈ foots foot t (y t))
/-- what operations wait for, and what these wait for, and so on -/
def closed (md : Region.Mode) (l : List Oper) : Nat → List Nat → List Nat
  | 0, s => s
  | i + 1, s => closed md l i (if s.contains i then (match l[i]? with | some o => waits md o | none => []) ++ s else s)
/-- the operations from number m on wait for all before m that don't follow others -/
def lateB (md : Region.Mode) (l : List Oper) (m : Nat) (fol : List (Nat × Nat)) : Bool :=
  (l.drop m).all fun o => (List.range m).all fun i => fol.any (fun p => decide (p.1 = i)) || (closed md l l.length (waits md o)).contains i
/-- followers: operations that wait for one other alone and are taken as soon as that one has come up -/
def folB (md : Region.Mode) (l : List Oper) (m : Nat) (fol : List (Nat × Nat)) : Bool :=
  Region.noSelect l.toArray && decide (fol.map (·.1)).Nodup &&
  fol.all fun p => decide (p.1 < m) && decide (p.2 < m) && fol.all (fun q => decide (q.1 ≠ p.2)) &&
    (match l[p.1]? with | some o => decide (waits md o = [p.2]) | none => false) && Region.free md l.toArray (((List.range l.length).map fun i => (closed md l l.length [p.2]).contains i).toArray) p.1

theorem waits_iff {o : Oper} {j : Nat} : j ∈ waits md o ↔ ∃ e ∈ o.after, Region.binds md e = true ∧ e.on = j := by
  unfold waits
  rw [List.mem_eraseDups, List.mem_map]
  constructor
  · rintro ⟨e, he, rfl⟩
    rw [List.mem_filter] at he
    exact ⟨e, by simpa using he.1, he.2, rfl⟩
  · rintro ⟨e, he, hb, rfl⟩
    exact ⟨e, List.mem_filter.2 ⟨by simpa using he, hb⟩, rfl⟩

theorem closed_listed {listed : Array Bool} (hc : ∀ j o, l[j]? = some o → listed.getD j false = true → ∀ i ∈ waits md o, listed.getD i false = true) :
    ∀ (k : Nat) (s : List Nat), (∀ i ∈ s, listed.getD i false = true) → ∀ i ∈ closed md l k s, listed.getD i false = true
  | 0, _, h => h
  | k + 1, s, h => by
    unfold closed
    refine closed_listed hc k _ ?_
    split
    · rename_i hk
      intro i hi
      rw [List.mem_append] at hi
      rcases hi with hi | hi
      · cases ho : l[k]? with
        | none => rw [ho] at hi; simp at hi
        | some o => rw [ho] at hi; exact hc k o ho (h k (by simpa using hk)) i hi
      · exact h i hi
    · exact h

/-- between the operations; the followers fs are still to be taken -/
def PoolI (own : List Nat) (md : Region.Mode) (R : List (Value → World → Prop)) (foot : List (Value → List Nat)) (w0 : World) (a0 : Act) (l : List Oper) (m : Nat) (ds : List (Option Tmp)) (fol fs : List (Nat × Nat)) (fuel : Nat) (listed : Array Bool) (a : Act) (w : World) : Prop :=
  listed.size = l.length ∧ fuel = listed.toList.countP (fun b => !b) ∧ (∀ j, m ≤ j → listed.getD j false = false) ∧
    (∀ j o, l[j]? = some o → listed.getD j false = true → ∀ i ∈ waits md o, listed.getD i false = true) ∧
    (∀ p ∈ fol, p ∉ fs → listed.getD p.1 false = listed.getD p.2 false) ∧ (∀ p ∈ fs, p ∈ fol ∧ listed.getD p.1 false = false ∧ listed.getD p.2 false = true) ∧
    ∃ y, a = fill ds 0 y a0 ∧ Ext w0 w ∧
    (∀ j, listed.getD j false = true → At R j (y j) w ∧ ∀ b ∈ foots foot j (y j), b < w.heap.size) ∧
    (∀ i j, i ≠ j → j ∈ own → listed.getD i false = true → listed.getD j false = true → ∀ b ∈ foots foot i (y i), b ∉ foots foot j (y j))

/-- what each operation owes -/
def Step (own : List Nat) (P : Program) (md : Region.Mode) (Q : Exit → Act → World → Prop) (R : List (Value → World → Prop)) (foot : List (Value → List Nat)) (w0 : World) (a0 : Act) (l : List Oper) (ds : List (Option Tmp)) (i : Nat) (o : Oper) : Prop :=
  ∀ y w, Ext w0 w → Facts R y w (waits md o) →
    wpOp P l.toArray Q i (fun a' w' => ∃ v, a' = (fill ds 0 y a0).put o.dst v ∧ At R i v w' ∧ Ext w w' ∧ ∀ b ∈ foots foot i v, New own foot (waits md o) y i w w' b) (fill ds 0 y a0) w
/-- what each follower owes -/
def Fol (P : Program) (md : Region.Mode) (R : List (Value → World → Prop)) (foot : List (Value → List Nat)) (w0 : World) (a0 : Act) (l : List Oper) (ds : List (Option Tmp)) (i : Nat) (o : Oper) : Prop :=
  ∀ y w, Ext w0 w → Facts R y w (waits md o) → ∃ v, Yields P l.toArray o v (fill ds 0 y a0) ∧ At R i v w ∧ foots foot i v = []

theorem getD_set_is {listed : Array Bool} {i : Nat} (h : i < listed.size) : (listed.setIfInBounds i true).getD i false = true := by simp [h]
theorem getD_set_mono {listed : Array Bool} {i j : Nat} (h : listed.getD j false = true) : (listed.setIfInBounds i true).getD j false = true := by
  by_cases hij : i = j
  · subst hij
    rcases Nat.lt_or_ge i listed.size with h' | h'
    · exact getD_set_is h'
    · simp [Array.getElem?_eq_none h'] at h
  · rwa [getD_set_ne false hij]

/-- one more is listed -/
theorem PoolI.more {fs fs' : List (Nat × Nat)} {fuel : Nat} {listed : Array Bool} {y : Nat → Value} {w w' : World} {i : Nat} {o : Oper} {v : Value} (hds : (l.take m).map (·.dst) = ds) (hd : dstOk ds = true) (hR : Stay R)
    (hI : PoolI own md R foot w0 a0 l m ds fol fs (fuel + 1) listed (fill ds 0 y a0) w) (hy : ∀ j, listed.getD j false = true → At R j (y j) w ∧ ∀ b ∈ foots foot j (y j), b < w.heap.size)
    (hp : ∀ i j, i ≠ j → j ∈ own → listed.getD i false = true → listed.getD j false = true → ∀ b ∈ foots foot i (y i), b ∉ foots foot j (y j))
    (hol : l[i]? = some o) (him : i < m) (hfal : listed.getD i false = false) (hw : ∀ j ∈ waits md o, listed.getD j false = true)
    (hr : At R i v w') (hx : Ext w w') (he : Ext w0 w) (hfo : ∀ b ∈ foots foot i v, New own foot (waits md o) y i w w' b)
    (hf1 : ∀ p ∈ fol, p ∉ fs' → (listed.setIfInBounds i true).getD p.1 false = (listed.setIfInBounds i true).getD p.2 false)
    (hf2 : ∀ p ∈ fs', p ∈ fol ∧ (listed.setIfInBounds i true).getD p.1 false = false ∧ (listed.setIfInBounds i true).getD p.2 false = true) :
    PoolI own md R foot w0 a0 l m ds fol fs' fuel (listed.setIfInBounds i true) ((fill ds 0 y a0).put o.dst v) w' := by
  obtain ⟨hsz, hc, hlate, hcl, -, -, -⟩ := hI
  have hln : i < l.length := (List.getElem?_eq_some_iff.1 hol).1
  have hil : i < listed.size := by omega
  refine ⟨by simpa using hsz, ?_, ?_, ?_, hf1, hf2, upd y i v, ?_, he.trans hx, ?_, ?_⟩
  · have : (listed.setIfInBounds i true).toList = listed.toList.set i true := by simp
    rw [this, List.countP_set (by simpa using hil)]
    have h1 : listed.toList[i]'(by simpa using hil) = false := by simpa [hil] using hfal
    rw [h1]
    simp only [Bool.not_false, Bool.not_true, if_true, Bool.false_eq_true, if_false]
    omega
  · intro j hj
    rw [getD_set_ne false (show i ≠ j by omega)]
    exact hlate j hj
  · intro j oj hoj hj k hk
    by_cases hji : j = i
    · subst hji
      rw [hol] at hoj
      injection hoj with hoj
      subst hoj
      exact getD_set_mono (hw k hk)
    · rw [getD_set_ne false (Ne.symm hji)] at hj
      exact getD_set_mono (hcl j oj hoj hj k hk)
  · have := fill_put v ds 0 i y a0 o.dst hd (by rw [← hds, List.getElem?_map, List.getElem?_take, if_pos him, hol]; rfl)
    rwa [Nat.zero_add] at this
  · intro j hj
    by_cases hji : j = i
    · subst hji
      rw [upd_self]
      refine ⟨hr, fun b hb => ?_⟩
      rcases hfo b hb with h | ⟨_, t, ht, _, hbt⟩
      · exact h.2
      · exact Nat.lt_of_lt_of_le ((hy t (hw t ht)).2 b hbt) hx.size
    · rw [upd_ne y v hji]
      have hj' : listed.getD j false = true := by rwa [getD_set_ne false (Ne.symm hji)] at hj
      exact ⟨hR.get _ _ _ _ hx (hy j hj').1, fun b hb => Nat.lt_of_lt_of_le ((hy j hj').2 b hb) hx.size⟩
  · intro j k hjk hko hj hk b hb
    by_cases hji : j = i
    · subst hji
      have hk' : listed.getD k false = true := by rwa [getD_set_ne false hjk] at hk
      rw [upd_self] at hb
      rw [upd_ne y v (Ne.symm hjk)]
      intro hb2
      have h1 := (hy k hk').2 b hb2
      rcases hfo b hb with h | ⟨_, t, ht, hto, hbt⟩
      · omega
      · exact hp t k (fun e => hto (e ▸ hko)) hko (hw t ht) hk' b hbt hb2
    · have hj' : listed.getD j false = true := by rwa [getD_set_ne false (Ne.symm hji)] at hj
      rw [upd_ne y v hji] at hb
      by_cases hki : k = i
      · subst hki
        rw [upd_self]
        intro hb2
        have h1 := (hy j hj').2 b hb
        rcases hfo b hb2 with h | ⟨h, _⟩
        · omega
        · exact h hko
      · have hk' : listed.getD k false = true := by rwa [getD_set_ne false (Ne.symm hki)] at hk
        rw [upd_ne y v hki]
        exact hp j k hjk hko hj' hk' b hb

/-- the followers are taken -/
theorem PoolI.take (hds : (l.take m).map (·.dst) = ds) (hd : dstOk ds = true) (hF : folB md l m fol = true) (hR : Stay R) (hQ : ∀ c a a' w, Q (.panic c) a w → Q (.panic c) a' w)
    (folw : ∀ p ∈ fol, ∀ o, l[p.1]? = some o → Fol P md R foot w0 a0 l ds p.1 o) : ∀ (fs : List (Nat × Nat)) (n : Nat),
    (∀ fuel listed a w, fuel ≤ n → PoolI own md R foot w0 a0 l m ds fol [] fuel listed a w → wpAny P md l.toArray Q fuel listed a w) →
    fs.Nodup → ∀ fuel listed a w, fuel ≤ n → PoolI own md R foot w0 a0 l m ds fol fs fuel listed a w → wpAny P md l.toArray Q fuel listed a w
  | [], _, ih, _, fuel, listed, a, w, hn, hI => ih fuel listed a w hn hI
  | p :: fs, n, ih, hnd, fuel, listed, a, w, hn, hI => by
    have hI0 := hI
    obtain ⟨hsz, hc, hlate, hcl, hf1, hf2, y, rfl, he, hy, hp⟩ := hI
    obtain ⟨hpf, hp1, hp2⟩ := hf2 p (List.mem_cons_self ..)
    have hB := hF
    simp only [folB, Bool.and_eq_true, decide_eq_true_eq] at hB
    obtain ⟨⟨hsel, hnod⟩, hall⟩ := hB
    have hb := List.all_eq_true.1 hall p hpf
    simp only [Bool.and_eq_true, decide_eq_true_eq] at hb
    obtain ⟨⟨⟨⟨hpm, hpm2⟩, hno⟩, hwt⟩, hfree⟩ := hb
    cases ho : l[p.1]? with
    | none => rw [ho] at hwt; cases hwt
    | some o =>
      rw [ho] at hwt
      simp only [decide_eq_true_eq] at hwt
      have hln : p.1 < l.length := (List.getElem?_eq_some_iff.1 ho).1
      have hil : p.1 < listed.size := by omega
      have hoa : l.toArray[p.1]? = some o := by simpa using ho
      have hws : ∀ j ∈ waits md o, listed.getD j false = true := by
        intro j hj
        rw [hwt, List.mem_singleton] at hj
        subst hj; exact hp2
      obtain ⟨v, hyl, hrv, hfv⟩ := folw p hpf o ho y w he (Facts.of (fun j hj => (hy j (hws j hj)).1))
      have hpos : 0 < fuel := by
        rw [hc]
        exact List.countP_pos_iff.2 ⟨listed.toList[p.1]'(by simpa using hil), List.getElem_mem _, by
          have : listed.toList[p.1]'(by simpa using hil) = false := by simpa [hil] using hp1
          rw [this]; rfl⟩
      obtain ⟨f, rfl⟩ : ∃ f, fuel = f + 1 := ⟨fuel - 1, by omega⟩
      have hready : p.1 ∈ Region.ready md l.toArray listed := mem_ready.2 ⟨by simpa [hil] using hp1, o, hoa, fun e he' hb => hws _ (waits_iff.2 ⟨e, he', hb, rfl⟩)⟩
      refine wpAny_first hoa (Region.noSelect_spec hsel) (fun c a w => hQ c _ _ w) f listed _ w ?_ hready hyl ?_
      · intro j oj hoj hji hun hnw
        refine Region.free_spec hoa hfree j oj hoj hji ?_ hnw
        have hjl : j < l.length := by have := (Array.getElem?_eq_some_iff.1 hoj).1; simpa using this
        have hjs : j < listed.size := by omega
        have hnj : j ∉ closed md l l.length [p.2] := fun hm => by
          have := closed_listed hcl l.length [p.2] (fun i hi => by rw [List.mem_singleton] at hi; subst hi; exact hp2) j hm
          simp [hjs] at this hun
          rw [this] at hun; cases hun
        simp [hjl, hnj]
      · refine PoolI.take hds hd hF hR hQ folw fs n ih (List.nodup_cons.1 hnd).2 f _ _ w (by omega) ?_
        have hnp := (List.nodup_cons.1 hnd).1
        refine PoolI.more hds hd hR hI0 hy hp ho hpm hp1 hws hrv (Ext.refl w) he (by rw [hfv]; intro b hb; cases hb) ?_ ?_
        · intro q hq hqs
          by_cases hqp : q = p
          · subst hqp
            rw [getD_set_is hil, getD_set_mono hp2]
          · have h1 := hf1 q hq (by simp [hqp, hqs])
            have hne1 : p.1 ≠ q.1 := fun e => hqp (by
              have hinj := List.inj_on_of_nodup_map' hnod hq hpf e.symm
              exact hinj)
            have hb2 := List.all_eq_true.1 hall q hq
            simp only [Bool.and_eq_true, decide_eq_true_eq] at hb2
            have hne2 : p.1 ≠ q.2 := by
              have := List.all_eq_true.1 hb2.1.1.2 p hpf
              simpa using this
            rw [getD_set_ne false hne1, getD_set_ne false hne2]
            exact h1
        · intro q hq
          obtain ⟨h1, h2, h3⟩ := hf2 q (List.mem_cons_of_mem _ hq)
          have hne1 : p.1 ≠ q.1 := fun e => by
            have hinj := List.inj_on_of_nodup_map' hnod h1 hpf e.symm
            subst hinj
            exact hnp hq
          exact ⟨h1, by rw [getD_set_ne false hne1]; exact h2, getD_set_mono h3⟩

theorem wpAny_pool_go (hm : m ≤ l.length) (hds : (l.take m).map (·.dst) = ds) (hd : dstOk ds = true) (hb : backB md l.toArray m = true) (hF : folB md l m fol = true) (hw : lateB md l m fol = true)
    (hseq : Region.seqB md l.toArray (l.length - m) m (Array.replicate m true ++ Array.replicate (l.length - m) false) = true) (hR : Stay R) (hQ : ∀ c a a' w, Q (.panic c) a w → Q (.panic c) a' w)
    (folw : ∀ p ∈ fol, ∀ o, l[p.1]? = some o → Fol P md R foot w0 a0 l ds p.1 o)
    (step : ∀ i o, i < m → (∀ p ∈ fol, p.1 ≠ i) → l[i]? = some o → Step own P md Q R foot w0 a0 l ds i o)
    (done : ∀ y w, Ext w0 w → (∀ j, j < m → At R j (y j) w ∧ ∀ b ∈ foots foot j (y j), b < w.heap.size) →
      (∀ i j, i ≠ j → j ∈ own → i < m → j < m → ∀ b ∈ foots foot i (y i), b ∉ foots foot j (y j)) → wpList P l.toArray Q (l.drop m) (fill ds 0 y a0) w) :
    ∀ (n : Nat) (fuel : Nat) (listed : Array Bool) (a : Act) (w : World), fuel ≤ n → PoolI own md R foot w0 a0 l m ds fol [] fuel listed a w → wpAny P md l.toArray Q fuel listed a w := by
  intro n
  induction n with
  | zero =>
    intro fuel listed a w hn hI
    obtain rfl : fuel = 0 := by omega
    obtain ⟨hsz, hc, hlate, hcl, hf1, hf2, y, rfl, he, hf, hp⟩ := hI
    have hall : ∀ j, j < l.length → listed.getD j false = true := by
      intro j hj
      have h0 : listed.toList.countP (fun b => !b) = 0 := hc.symm
      rw [List.countP_eq_zero] at h0
      have := h0 (listed[j]'(by omega)) (by simp)
      have hj' : j < listed.size := by omega
      simp [hj']
      simpa using this
    have hml : l.length ≤ m := by
      rcases Nat.lt_or_ge m l.length with h | h
      · have := hall m h
        rw [hlate m (Nat.le_refl _)] at this
        cases this
      · exact h
    have hd0 : l.drop m = [] := List.drop_eq_nil_of_le hml
    refine ⟨?_, ?_⟩
    · rw [List.eq_nil_iff_forall_not_mem]
      intro i hi
      obtain ⟨hun, o, ho, _⟩ := mem_ready.1 hi
      have hil : i < l.length := by have := (Array.getElem?_eq_some_iff.1 ho).1; simpa using this
      have h1 := hall i hil
      have hi' : i < listed.size := by omega
      simp [hi'] at h1 hun
      rw [h1] at hun; cases hun
    · have := done y w he (fun j hj => hf j (hall j (by omega))) (fun i j hij ho hi hj => hp i j hij ho (hall i (by omega)) (hall j (by omega)))
      rw [hd0] at this
      exact this
  | succ n ih =>
    intro fuel listed a w hn hI
    have hI0 := hI
    obtain ⟨hsz, hc, hlate, hcl, hf1, hf2, y, rfl, he, hf, hp⟩ := hI
    have tf0 : ∀ j, j < l.length → listed.getD j true = true → listed.getD j false = true := by
      intro j hj this
      have hj' : j < listed.size := by omega
      simp [hj'] at this ⊢
      exact this
    rcases least_off (xs := listed) m with hall | ⟨i0, hi0, hu0, hlo0⟩
    · have tf : ∀ j, j < m → listed.getD j false = true := fun j hj => tf0 j (by omega) (hall j hj)
      have e : listed = Array.replicate m true ++ Array.replicate (l.length - m) false := by
        apply Array.ext_getElem?
        intro j
        rw [Array.getElem?_append]
        simp only [Array.size_replicate]
        split
        · rename_i h
          have := tf j h
          have hj' : j < listed.size := by omega
          simp [hj'] at this
          simp [hj', this, h]
        · rename_i h
          have := hlate j (by omega)
          rcases Nat.lt_or_ge j listed.size with hj' | hj'
          · simp [hj'] at this
            have h2 : j - m < l.length - m := by omega
            simp [hj', this, h2]
          · have h2 : ¬ j - m < l.length - m := by omega
            simp [hj', h2]
      have hfu : fuel = (l.drop m).length := by
        rw [hc, e]
        simp only [Array.toList_append, Array.toList_replicate, List.countP_append, List.countP_replicate, List.length_drop]
        simp
      rw [hfu, e]
      refine wpAny_of_seq (md := md) (Q' := Q) (l.drop m) m _ _ w (fun j => by simp) (by rw [List.length_drop]; exact hseq) ?_
      exact done y w he (fun j hj => hf j (tf j hj)) (fun i j hij ho hi hj => hp i j hij ho (tf i hi) (tf j hj))
    · have hlt0 : i0 < l.length := by omega
      have hil0 : i0 < listed.size := by omega
      have hi1 : i0 ∈ Region.ready md l.toArray listed := by
        have h1 := List.all_eq_true.1 hb i0 (List.mem_range.2 hi0)
        refine mem_ready.2 ⟨hu0, l[i0], by simp [hlt0], fun e he hbi => ?_⟩
        simp only [List.getElem?_toArray, List.getElem?_eq_getElem hlt0, Bool.and_eq_true] at h1
        have h2 := Array.all_eq_true_iff_forall_mem.1 h1.1 e he
        simp only [hbi, Bool.not_true, Bool.false_or, decide_eq_true_eq] at h2
        exact tf0 _ (by omega) (hlo0 e.on h2)
      have hpos : 0 < fuel := by
        rw [hc]
        exact List.countP_pos_iff.2 ⟨listed.toList[i0]'(by simpa using hil0), List.getElem_mem _, by
          have : listed.toList[i0]'(by simpa using hil0) = false := by simpa [hil0] using hu0
          rw [this]; rfl⟩
      obtain ⟨f, rfl⟩ : ∃ f, fuel = f + 1 := ⟨fuel - 1, by omega⟩
      refine ⟨fun h0 => (by rw [h0] at hi1; cases hi1), fun i hi => ?_⟩
      obtain ⟨hun, o, ho, hall⟩ := mem_ready.1 hi
      have hol : l[i]? = some o := by simpa using ho
      have hln : i < l.length := (List.getElem?_eq_some_iff.1 hol).1
      have hil : i < listed.size := by omega
      have hfal : listed.getD i false = false := by
        simp [hil] at hun ⊢; exact hun
      have hws : ∀ j ∈ waits md o, listed.getD j false = true := by
        intro j hj
        obtain ⟨e, he, hbi, rfl⟩ := waits_iff.1 hj
        exact hall e he hbi
      have hB := hF
      simp only [folB, Bool.and_eq_true, decide_eq_true_eq] at hB
      obtain ⟨⟨hsel, hnod⟩, hfall⟩ := hB
      have him : i < m := by
        rcases Nat.lt_or_ge i m with h | h
        · exact h
        · exfalso
          unfold lateB at hw
          have hmem : o ∈ l.drop m := by
            rw [List.mem_iff_getElem?]
            exact ⟨i - m, by rw [List.getElem?_drop, show m + (i - m) = i by omega]; exact hol⟩
          have h1 := List.all_eq_true.1 hw o hmem
          have hnf : ∀ k, k < m → (∀ p ∈ fol, p.1 ≠ k) → listed.getD k false = true := by
            intro k hk hno
            have h2 := List.all_eq_true.1 h1 k (List.mem_range.2 hk)
            rw [Bool.or_eq_true] at h2
            rcases h2 with h2 | h2
            · rw [List.any_eq_true] at h2
              obtain ⟨p, hp, h3⟩ := h2
              exact absurd (of_decide_eq_true h3) (hno p hp)
            · exact closed_listed hcl _ _ hws k (by simpa using h2)
          have hbad : listed.getD i0 false = true := by
            by_cases hex : ∃ p ∈ fol, p.1 = i0
            · obtain ⟨p, hp, rfl⟩ := hex
              have hb2 := List.all_eq_true.1 hfall p hp
              simp only [Bool.and_eq_true, decide_eq_true_eq] at hb2
              rw [hf1 p hp (by simp)]
              refine hnf p.2 hb2.1.1.1.2 (fun q hq => ?_)
              have := List.all_eq_true.1 hb2.1.1.2 q hq
              simpa using this
            · exact hnf i0 hi0 (fun p hp hpe => hex ⟨p, hp, hpe⟩)
          simp [hil0] at hbad hu0
          rw [hbad] at hu0; cases hu0
      have hif : ∀ p ∈ fol, p.1 ≠ i := by
        rintro p hpf rfl
        have hb2 := List.all_eq_true.1 hfall p hpf
        simp only [Bool.and_eq_true, decide_eq_true_eq] at hb2
        have hwt := hb2.1.2
        rw [hol] at hwt
        simp only [decide_eq_true_eq] at hwt
        have h1 := hws p.2 (by rw [hwt]; exact List.mem_singleton.2 rfl)
        rw [← hf1 p hpf (by simp), hfal] at h1
        cases h1
      refine wpOp_mono (fun a' w' h => ?_) (step i o him hif hol y w he (Facts.of (fun j hj => (hf j (hws j hj)).1)))
      obtain ⟨v, rfl, hr, hx, hfo⟩ := h
      refine PoolI.take (P := P) (Q := Q) hds hd hF hR hQ folw (fol.filter fun p => decide (p.2 = i)) n ih ?_ f _ _ w' (by omega) ?_
      · exact List.Nodup.sublist' (List.filter_sublist) (List.nodup_of_map' hnod)
      · refine PoolI.more hds hd hR hI0 hf hp hol him hfal hws hr hx he hfo ?_ ?_
        · intro p hpf hps
          have hne2 : i ≠ p.2 := fun e => hps (List.mem_filter.2 ⟨hpf, by simp [e]⟩)
          rw [getD_set_ne false (Ne.symm (hif p hpf)), getD_set_ne false hne2]
          exact hf1 p hpf (by simp)
        · intro p hps
          obtain ⟨hpf, he2⟩ := List.mem_filter.1 hps
          have he2 : p.2 = i := of_decide_eq_true he2
          refine ⟨hpf, ?_, by rw [he2]; exact getD_set_is hil⟩
          rw [getD_set_ne false (Ne.symm (hif p hpf)), hf1 p hpf (by simp), he2]
          exact hfal

theorem wpAny_pool (hm : m ≤ l.length) (hds : (l.take m).map (·.dst) = ds) (hd : dstOk ds = true) (hb : backB md l.toArray m = true) (hF : folB md l m fol = true) (hw : lateB md l m fol = true)
    (hseq : Region.seqB md l.toArray (l.length - m) m (Array.replicate m true ++ Array.replicate (l.length - m) false) = true) (hR : Stay R) (hQ : ∀ c a a' w, Q (.panic c) a w → Q (.panic c) a' w)
    (folw : ∀ p ∈ fol, ∀ o, l[p.1]? = some o → Fol P md R foot w0 a0 l ds p.1 o)
    (step : ∀ i o, i < m → (∀ p ∈ fol, p.1 ≠ i) → l[i]? = some o → Step own P md Q R foot w0 a0 l ds i o)
    (done : ∀ y w, Ext w0 w → (∀ j, j < m → At R j (y j) w ∧ ∀ b ∈ foots foot j (y j), b < w.heap.size) →
      (∀ i j, i ≠ j → j ∈ own → i < m → j < m → ∀ b ∈ foots foot i (y i), b ∉ foots foot j (y j)) → wpList P l.toArray Q (l.drop m) (fill ds 0 y a0) w) :
    wpAny P md l.toArray Q l.length (Array.replicate l.length false) a0 w0 := by
  have z : ∀ j, (Array.replicate l.length false).getD j false = false := fun j => getD_replicate_false _ _
  refine wpAny_pool_go hm hds hd hb hF hw hseq hR hQ folw step done _ _ _ _ _ (Nat.le_refl _) ⟨by simp, ?_, fun j _ => z j, ?_, ?_, ?_, mine ds a0, (fill_own a0 ds 0 _ (fun j d ho => by rw [Nat.zero_add]; simp [mine, ho])).symm, Ext.refl _, ?_, ?_⟩
  · rw [Array.toList_replicate, List.countP_replicate]; simp
  · intro j o _ hj; rw [z] at hj; cases hj
  · intro p _ _; rw [z, z]
  · intro p hp; cases hp
  · intro j hj; rw [z] at hj; cases hj
  · intro i j _ _ hi; rw [z] at hi; cases hi

/-- the operations from number k on -/
def Steps (own : List Nat) (P : Program) (md : Region.Mode) (Q : Exit → Act → World → Prop) (R : List (Value → World → Prop)) (foot : List (Value → List Nat)) (w0 : World) (a0 : Act) (l : List Oper) (ds : List (Option Tmp)) (fol : List (Nat × Nat)) (p : List Oper) (k : Nat) : Prop :=
  ∀ i o, p[i]? = some o → if fol.any (fun q => decide (q.1 = k + i)) = true then Fol P md R foot w0 a0 l ds (k + i) o else Step own P md Q R foot w0 a0 l ds (k + i) o
theorem Steps.nil {k : Nat} : Steps own P md Q R foot w0 a0 l ds fol [] k := fun _ _ h => by simp at h
theorem Steps.cons {o : Oper} {p : List Oper} {k : Nat} (r : Value → World → Prop) (ns : List Nat) (hr : At R k = r) (hn : waits md o = ns) (ho : l[k]? = some o) (hk : fol.any (fun q => decide (q.1 = k)) = false)
    (h : ∀ y w, Ext w0 w → Facts R y w ns → ∀ K : Act → World → Prop, Shut (∀ v w', r v w' → Ext w w' → (∀ b ∈ foots foot k v, New own foot ns y k w w' b) → K ((fill ds 0 y a0).put o.dst v) w') →
      Box (if Region.wanted o (yielded l.toArray (fill ds 0 y a0).tmps) = true then Oper.wp P o (fill ds 0 y a0) w K Q else K ((fill ds 0 y a0).put o.dst undef) w))
    (hs : Steps own P md Q R foot w0 a0 l ds fol p (k + 1)) : Steps own P md Q R foot w0 a0 l ds fol (o :: p) k := by
  intro i q hp
  cases i with
  | zero =>
    simp only [List.getElem?_cons_zero, Option.some.injEq] at hp
    subst hp
    rw [Nat.add_zero, hk]
    simp only [Bool.false_eq_true, if_false]
    intro y w he hf
    rw [hn] at hf
    refine wpOp_step (by simpa using ho) (fun K' hK => (h y w he hf K' (fun v w' h1 h2 h3 => hK _ _ ⟨v, rfl, ?_, h2, ?_⟩)).out)
    · show At R k v w'
      rw [hr]; exact h1
    · rw [hn]; exact h3
  | succ i =>
    have := hs i q (by simpa using hp)
    rwa [show k + 1 + i = k + (i + 1) by omega] at this
theorem Steps.flw {o : Oper} {p : List Oper} {k : Nat} (r : Value → World → Prop) (ns : List Nat) (hr : At R k = r) (hn : waits md o = ns) (hk : fol.any (fun q => decide (q.1 = k)) = true) (hft : ∀ v, foots foot k v = [])
    (h : ∀ y w, Ext w0 w → Facts R y w ns → ∃ v, (Region.wanted o (yielded l.toArray (fill ds 0 y a0).tmps) = true ∧ ∀ w, (execOp (fill ds 0 y a0).eval o).run P w = .ok (.value v) w) ∧ r v w)
    (hs : Steps own P md Q R foot w0 a0 l ds fol p (k + 1)) : Steps own P md Q R foot w0 a0 l ds fol (o :: p) k := by
  intro i q hp
  cases i with
  | zero =>
    simp only [List.getElem?_cons_zero, Option.some.injEq] at hp
    subst hp
    rw [Nat.add_zero, hk]
    simp only [if_true]
    intro y w he hf
    rw [hn] at hf
    obtain ⟨v, h1, h2⟩ := h y w he hf
    exact ⟨v, .inl h1, by rw [hr]; exact h2, hft v⟩
  | succ i =>
    have := hs i q (by simpa using hp)
    rwa [show k + 1 + i = k + (i + 1) by omega] at this
end

/-- A drawn region: its first m operations in whatever order, each walked once; then the others, which wait for them, one after another. -/
theorem wp_pool {P : Program} {Q : Exit → Act → World → Prop} {id : Nat} {a : Act} {w : World} {l : List Oper} (m : Nat) (ds : List (Option Tmp)) (fol : List (Nat × Nat)) (own : List Nat) (R : List (Value → World → Prop)) (foot : List (Value → List Nat)) (hmo : P.follows .mixedOrders = true)
    (hm : decide (m ≤ l.length) = true) (hds : (l.take m).map (·.dst) = ds) (hd : dstOk ds = true) (hb : backB .any l.toArray m = true) (hF : folB .any l m fol = true) (hw : lateB .any l m fol = true)
    (hseq : Region.seqB .any l.toArray (l.length - m) m (Array.replicate m true ++ Array.replicate (l.length - m) false) = true) (hQ : ∀ c a a' w, Q (.panic c) a w → Q (.panic c) a' w) (hR : Stay R)
    (steps : Steps own P .any Q R foot w.drew a l ds fol (l.take m) 0)
    (done : ∀ y X, Ext w X → Facts R y X (List.range m) → (∀ j, j < m → ∀ b ∈ foots foot j (y j), b < X.heap.size) →
      (∀ i j, i ≠ j → j ∈ own → i < m → j < m → ∀ b ∈ foots foot i (y i), b ∉ foots foot j (y j)) → Box (wpList P l.toArray Q (l.drop m) (fill ds 0 y a) X)) : (Code.region id l.toArray true).wp P Q a w := by
  refine wp_region_any hmo ?_
  have hF' := hF
  simp only [folB, Bool.and_eq_true, decide_eq_true_eq] at hF'
  have := wpAny_pool (own := own) (P := P) (md := .any) (Q := Q) (R := R) (foot := foot) (w0 := w.drew) (a0 := a) (l := l) (m := m) (fol := fol) (of_decide_eq_true hm) hds hd hb hF hw hseq hR hQ
    (fun p hp o ho => by
      have hb2 := List.all_eq_true.1 hF'.2 p hp
      simp only [Bool.and_eq_true, decide_eq_true_eq] at hb2
      have h1 := steps p.1 o (by rw [List.getElem?_take, if_pos hb2.1.1.1.1]; exact ho)
      rwa [Nat.zero_add, if_pos (List.any_eq_true.2 ⟨p, hp, by simp⟩)] at h1)
    (fun i o hi hno ho => by
      have h1 := steps i o (by rw [List.getElem?_take, if_pos hi]; exact ho)
      rwa [Nat.zero_add, if_neg (by rw [List.any_eq_true]; rintro ⟨p, hp, h⟩; exact hno p hp (of_decide_eq_true h))] at h1)
    (fun y X he hf hp => (done y X ((Ext.drw (Ext.refl w)).trans he) (Facts.of (fun j hj => (hf j (by simpa using hj)).1)) (fun j hj => (hf j hj).2) (fun i j hij ho hi hj => hp i j hij ho hi hj)).out)
  simpa using this

/-- the blocks of what an operation yields: none, that of a pointer, of a slice, of a struct whose third field is a slice, of such a struct and an error -/
def noF : Value → List Nat := fun _ => []
def ptrF : Value → List Nat | .pointer (some a) => [a.block] | _ => []
def slcF : Value → List Nat | .slice (some a) _ _ => [a.block] | _ => []
def aggF : Value → List Nat | .agg xs => slcF (xs.getD 2 undef) | _ => []
def tupF : Value → List Nat | .tuple xs => aggF (xs.getD 0 undef) | _ => []
section
variable {own : List Nat} {foot : List (Value → List Nat)} {ns : List Nat} {y : Nat → Value} {i : Nat} {w w' : World}
theorem New.ptr {g o : Nat} (h1 : w.heap.size ≤ g) (h2 : g < w'.heap.size) : ∀ b ∈ ptrF (.pointer (some ⟨g, o, none⟩)), New own foot ns y i w w' b := fun b h => by
  have : b = g := by simpa [ptrF] using h
  exact .inl (by omega)
theorem New.slc {A : Option Addr} {n c : Nat} (h : ∀ a, A = some a → w.heap.size ≤ a.block ∧ a.block < w'.heap.size) : ∀ b ∈ slcF (.slice A n c), New own foot ns y i w w' b := fun b hb => by
  cases A with
  | none => cases hb
  | some a =>
    have : b = a.block := by simpa [slcF] using hb
    subst this
    exact .inl (h a rfl)
theorem New.from (t : Nat) (ht : t ∈ ns) (hi : i ∉ own) (hto : t ∉ own) {v : Value} {f : Value → List Nat} (hv : ∀ b ∈ f v, b ∈ foots foot t (y t)) : ∀ b ∈ f v, New own foot ns y i w w' b := fun b hb =>
  .inr ⟨hi, t, ht, hto, hv b hb⟩
end
theorem sep_ne {u v : Value} {g h i j : Nat} (hs : ∀ b ∈ ptrF u, b ∉ ptrF v) (hu : u = .pointer (some ⟨g, i, none⟩)) (hv : v = .pointer (some ⟨h, j, none⟩)) : g ≠ h := fun e => by
  subst hu hv e
  exact hs g (by simp [ptrF]) (by simp [ptrF])
theorem sep_slc {f : Value → List Nat} {u v : Value} {g i n c : Nat} {A : Option Addr} (hs : ∀ b ∈ f u, b ∉ ptrF v) (hu : f u = slcF (.slice A n c)) (hv : v = .pointer (some ⟨g, i, none⟩)) : ∀ a, A = some a → a.block ≠ g := fun a ha e => by
  subst hv ha
  exact hs g (by rw [hu, ← e]; simp [slcF]) (by simp [ptrF])
end Go.Proofs.YtijhbmdbnnmogaaGreat.G
