/- A drawn region, each of its operations walked once: what an operation yields is told by a condition that every later world keeps. · Arithmetic of long division with words as digits: a guessed digit is right, or one too high. · Plain mathematics of long division, words to the base 2^32. -/
import Derived.Test.YtmlopkkbgpfdnaaGreatDoorM2
import Derived.StillTail
import Derived.Deep.DeepCutAuto
import Derived.Deep.RegionHeld
import Derived.Test.YtmlopkkbgpfdnaaGreatDoorM0
namespace Go.Proofs.YtmlopkkbgpfdnaaGreatDoor
open Go

/-- a goal that no tactic looks into -/
structure Box (p : Prop) : Prop where
  out : p
/-- the slots of the operations, filled one after another -/
def fill : List (Option Tmp) → Nat → (Nat → Value) → Act → Act
  | [], _, _, a => a
  | d :: l, k, y, a => fill l (k + 1) y (a.put d (y k))
/-- no two operations have one slot -/
def dstOk : List (Option Tmp) → Bool
  | [] => true
  | o :: l => (match o with | none => true | some d => l.all fun o' => decide (o' ≠ some d)) && dstOk l
def upd (y : Nat → Value) (i : Nat) (v : Value) : Nat → Value := fun j => if j = i then v else y j
theorem upd_self (y : Nat → Value) (i : Nat) (v : Value) : upd y i v i = v := by simp [upd]
theorem upd_ne (y : Nat → Value) {i j : Nat} (v : Value) (h : j ≠ i) : upd y i v j = y j := by simp [upd, h]

theorem fill_congr : ∀ (l : List (Option Tmp)) (k : Nat) (y z : Nat → Value) (a : Act), (∀ j, k ≤ j → y j = z j) → fill l k y a = fill l k z a
  | [], _, _, _, _, _ => rfl
  | o :: l, k, y, z, a, h => by
    unfold fill
    rw [h k (Nat.le_refl _)]
    exact fill_congr l (k + 1) y z _ (fun j hj => h j (by omega))
theorem put_same (a : Act) (d : Option Tmp) (x v : Value) : (a.put d x).put d v = a.put d v := by
  cases d with
  | none => rfl
  | some d => simp [Act.put]
theorem fill_out (d : Tmp) (v : Value) : ∀ (l : List (Option Tmp)) (k : Nat) (y : Nat → Value) (a : Act), (∀ o ∈ l, o ≠ some d) → (fill l k y a).put (some d) v = fill l k y (a.put (some d) v)
  | [], _, _, _, _ => rfl
  | o :: l, k, y, a, h => by
    unfold fill
    rw [fill_out d v l (k + 1) y _ (fun o' ho => h o' (List.mem_cons_of_mem _ ho)), Act.put_comm a (y k) v (fun e he hd => h o (List.mem_cons_self ..) (he.trans hd.symm))]
theorem fill_put (v : Value) : ∀ (l : List (Option Tmp)) (k i : Nat) (y : Nat → Value) (a : Act) (o : Option Tmp), dstOk l = true → l[i]? = some o → (fill l k y a).put o v = fill l k (upd y (k + i) v) a
  | [], _, _, _, _, _, _, h => by simp at h
  | p :: l, k, 0, y, a, o, hd, h => by
    simp only [List.getElem?_cons_zero, Option.some.injEq] at h
    subst h
    unfold fill
    simp only [dstOk, Bool.and_eq_true] at hd
    simp only [Nat.add_zero]
    rw [upd_self, fill_congr l (k + 1) (upd y k v) y _ (fun j hj => upd_ne y v (by omega))]
    cases hp : p with
    | none => simp [Act.put]
    | some d =>
      rw [hp] at hd
      rw [fill_out d v l (k + 1) y _ (fun o' ho => by have := List.all_eq_true.1 hd.1 o' ho; simpa using this), put_same]
  | p :: l, k, i + 1, y, a, o, hd, h => by
    simp only [List.getElem?_cons_succ] at h
    unfold fill
    simp only [dstOk, Bool.and_eq_true] at hd
    rw [upd_ne y v (by omega : k ≠ k + (i + 1)), fill_put v l (k + 1) i y _ o hd.2 h, show k + 1 + i = k + (i + 1) by omega]
theorem put_own (a : Act) (d : Tmp) : a.put (some d) (a.tmps.getD d undef) = a := by
  cases a with
  | mk t df =>
    simp only [Act.put, Act.mk.injEq, and_true]
    apply Array.ext_getElem?
    intro i
    rw [Array.getElem?_setIfInBounds]
    split
    · rename_i h; subst h; split
      · rename_i h; simp [h]
      · rename_i h; simp [h]
    · rfl
def mine (l : List (Option Tmp)) (a : Act) (j : Nat) : Value := match l[j]? with | some (some d) => a.tmps.getD d undef | _ => undef
theorem fill_own (a : Act) : ∀ (l : List (Option Tmp)) (k : Nat) (y : Nat → Value), (∀ j d, l[j]? = some (some d) → y (k + j) = a.tmps.getD d undef) → fill l k y a = a
  | [], _, _, _ => rfl
  | o :: l, k, y, h => by
    unfold fill
    have e : a.put o (y k) = a := by
      cases o with
      | none => rfl
      | some d =>
        have := h 0 d (by simp)
        rw [Nat.add_zero] at this
        rw [this, put_own]
    rw [e]
    exact fill_own a l (k + 1) y (fun j d ho => by have := h (j + 1) d (by simpa using ho); rwa [show k + 1 + j = k + (j + 1) by omega])

/-- kept by worlds that grow -/
def Stays (r : Value → World → Prop) : Prop := ∀ v u w, Ext u w → r v u → r v w
theorem Stays.eq (c : Value) : Stays (fun v _ => v = c) := fun _ _ _ _ h => h
theorem Stays.pure (p : Value → Prop) : Stays (fun v _ => p v) := fun _ _ _ _ h => h
theorem Stays.true : Stays (fun _ _ => True) := fun _ _ _ _ h => h
def Stay : List (Value → World → Prop) → Prop
  | [] => True
  | r :: l => Stays r ∧ Stay l
def At (R : List (Value → World → Prop)) (j : Nat) : Value → World → Prop := R.getD j (fun _ _ => True)
theorem Stay.get : ∀ {R : List (Value → World → Prop)}, Stay R → ∀ j v u w, Ext u w → At R j v u → At R j v w
  | [], _, _, _, _, _, _, h => h
  | _ :: _, h, 0, v, u, w, e, hr => h.1 v u w e hr
  | _ :: l, h, j + 1, v, u, w, e, hr => Stay.get (R := l) h.2 j v u w e hr
def Facts (R : List (Value → World → Prop)) (y : Nat → Value) (w : World) : List Nat → Prop
  | [] => True
  | j :: l => At R j (y j) w ∧ Facts R y w l
def waits (md : Region.Mode) (o : Oper) : List Nat := ((o.after.toList.filter (Region.binds md)).map (·.on)).eraseDups
theorem Facts.of {R : List (Value → World → Prop)} {y : Nat → Value} {w : World} : ∀ {l : List Nat}, (∀ j ∈ l, At R j (y j) w) → Facts R y w l
  | [], _ => True.intro
  | j :: _, h => ⟨h j (List.mem_cons_self ..), Facts.of (fun i hi => h i (List.mem_cons_of_mem _ hi))⟩

theorem List.nodup_of_map' {α β : Type} {f : α → β} : ∀ {l : List α}, (l.map f).Nodup → l.Nodup
  | [], _ => List.nodup_nil
  | a :: l, h => by
    rw [List.map_cons, List.nodup_cons] at h
    exact List.nodup_cons.2 ⟨fun hm => h.1 (List.mem_map_of_mem hm), List.nodup_of_map' h.2⟩
theorem List.inj_on_of_nodup_map' {α β : Type} {f : α → β} : ∀ {l : List α}, (l.map f).Nodup → ∀ {a b : α}, a ∈ l → b ∈ l → f a = f b → a = b
  | [], _, _, _, h, _, _ => by cases h
  | c :: l, hn, a, b, ha, hb, he => by
    rw [List.map_cons, List.nodup_cons] at hn
    rcases List.mem_cons.1 ha with h1 | h1
    · rcases List.mem_cons.1 hb with h2 | h2
      · exact h1.trans h2.symm
      · exact absurd (by rw [← h1, he]; exact List.mem_map_of_mem h2) hn.1
    · rcases List.mem_cons.1 hb with h2 | h2
      · exact absurd (by rw [← h2, ← he]; exact List.mem_map_of_mem h1) hn.1
      · exact List.inj_on_of_nodup_map' hn.2 h1 h2 he
theorem List.Nodup.sublist' {α : Type} {k l : List α} (h : k.Sublist l) (hn : l.Nodup) : k.Nodup := hn.sublist h

section
variable {P : Program} {md : Region.Mode} {Q : Exit → Act → World → Prop} {R : List (Value → World → Prop)} {foot : List (Value → List Nat)} {w0 : World} {a0 : Act} {l : List Oper} {m : Nat} {fol : List (Nat × Nat)} {ds : List (Option Tmp)} {own : List Nat}

def foots (foot : List (Value → List Nat)) (j : Nat) (v : Value) : List Nat := foot.getD j (fun _ => []) v
/-- a block is new, or that of an operation that was waited for -/
def New (own : List Nat) (foot : List (Value → List Nat)) (ns : List Nat) (y : Nat → Value) (i : Nat) (w w' : World) (b : Nat) : Prop :=
  (w.heap.size ≤ b ∧ b < w'.heap.size) ∨ (i ∉ own ∧ ∃ t ∈ ns, t ∉ own ∧ b ∈ foots foot t (y t))
/-- what operations wait for, and what these wait for, and so on -/
def closed (md : Region.Mode) (l : List Oper) : Nat → List Nat → List Nat
  | 0, s => s
  | i + 1, s => closed md l i (if s.contains i then (match l[i]? with | some o => waits md o | none => []) ++ s else s)
/-- the operations from number m on wait for all before m that don't follow others -/
def lateB (md : Region.Mode) (l : List Oper) (m : Nat) (fol : List (Nat × Nat)) : Bool :=
  (l.drop m).all fun o => (List.range m).all fun i => fol.any (fun p => decide (p.1 = i)) || (closed md l l.length (waits md o)).contains i
/-- followers: operations that wait for one other alone and are taken as soon as that one has come up -/
def folB (md : Region.Mode) (l : List Oper) (m : Nat) (fol : List (Nat × Nat)) : Bool :=
  Region.noSelect l.toArray && decide (fol.map (·.1)).Nodup &&
  fol.all fun p => decide (p.1 < m) && decide (p.2 < m) && fol.all (fun q => decide (q.1 ≠ p.2)) &&
    (match l[p.1]? with | some o => decide (waits md o = [p.2]) || decide (waits md o = []) | none => false) && Region.free md l.toArray (((List.range l.length).map fun i => (closed md l l.length [p.2]).contains i).toArray) p.1

theorem waits_iff {o : Oper} {j : Nat} : j ∈ waits md o ↔ ∃ e ∈ o.after, Region.binds md e = true ∧ e.on = j := by
  unfold waits
  rw [List.mem_eraseDups, List.mem_map]
  constructor
  · rintro ⟨e, he, rfl⟩
    rw [List.mem_filter] at he
    exact ⟨e, by simpa using he.1, he.2, rfl⟩
  · rintro ⟨e, he, hb, rfl⟩
    exact ⟨e, List.mem_filter.2 ⟨by simpa using he, hb⟩, rfl⟩

theorem closed_listed {listed : Array Bool} (hc : ∀ j o, l[j]? = some o → listed.getD j false = true → ∀ i ∈ waits md o, listed.getD i false = true) :
    ∀ (k : Nat) (s : List Nat), (∀ i ∈ s, listed.getD i false = true) → ∀ i ∈ closed md l k s, listed.getD i false = true
  | 0, _, h => h
  | k + 1, s, h => by
    unfold closed
    refine closed_listed hc k _ ?_
    split
    · rename_i hk
      intro i hi
      rw [List.mem_append] at hi
      rcases hi with hi | hi
      · cases ho : l[k]? with
        | none => rw [ho] at hi; simp at hi
        | some o => rw [ho] at hi; exact hc k o ho (h k (by simpa using hk)) i hi
      · exact h i hi
    · exact h

/-- between the operations; the followers fs are still to be taken -/
def PoolI (own : List Nat) (md : Region.Mode) (R : List (Value → World → Prop)) (foot : List (Value → List Nat)) (w0 : World) (a0 : Act) (l : List Oper) (m : Nat) (ds : List (Option Tmp)) (fol fs : List (Nat × Nat)) (fuel : Nat) (listed : Array Bool) (a : Act) (w : World) : Prop :=
  listed.size = l.length ∧ fuel = listed.toList.countP (fun b => !b) ∧ (∀ j, m ≤ j → listed.getD j false = false) ∧
    (∀ j o, l[j]? = some o → listed.getD j false = true → ∀ i ∈ waits md o, listed.getD i false = true) ∧
    (∀ p ∈ fol, p ∉ fs → listed.getD p.2 false = true → listed.getD p.1 false = true) ∧ (∀ p ∈ fs, p ∈ fol ∧ listed.getD p.1 false = false ∧ listed.getD p.2 false = true) ∧
    ∃ y, a = fill ds 0 y a0 ∧ Ext w0 w ∧
    (∀ j, listed.getD j false = true → At R j (y j) w ∧ ∀ b ∈ foots foot j (y j), b < w.heap.size) ∧
    (∀ i j, i ≠ j → j ∈ own → listed.getD i false = true → listed.getD j false = true → ∀ b ∈ foots foot i (y i), b ∉ foots foot j (y j))

/-- what each operation owes -/
def Step (own : List Nat) (P : Program) (md : Region.Mode) (Q : Exit → Act → World → Prop) (R : List (Value → World → Prop)) (foot : List (Value → List Nat)) (w0 : World) (a0 : Act) (l : List Oper) (ds : List (Option Tmp)) (i : Nat) (o : Oper) : Prop :=
  ∀ y w, Ext w0 w → Facts R y w (waits md o) →
    wpOp P l.toArray Q i (fun a' w' => ∃ v, a' = (fill ds 0 y a0).put o.dst v ∧ At R i v w' ∧ Ext w w' ∧ ∀ b ∈ foots foot i v, New own foot (waits md o) y i w w' b) (fill ds 0 y a0) w
/-- what each follower owes -/
def Fol (P : Program) (md : Region.Mode) (R : List (Value → World → Prop)) (foot : List (Value → List Nat)) (w0 : World) (a0 : Act) (l : List Oper) (ds : List (Option Tmp)) (i : Nat) (o : Oper) : Prop :=
  ∀ y w, Ext w0 w → Facts R y w (waits md o) → ∃ v, Yields P l.toArray o v (fill ds 0 y a0) ∧ At R i v w ∧ foots foot i v = []

theorem getD_setb_ne {listed : Array Bool} {i j : Nat} (d : Bool) (h : i ≠ j) : (listed.setIfInBounds i true).getD j d = listed.getD j d := by simp [Array.getD_eq_getD_getElem?, Array.getElem?_setIfInBounds, h]
theorem getD_set_is {listed : Array Bool} {i : Nat} (h : i < listed.size) : (listed.setIfInBounds i true).getD i false = true := by simp [h]
theorem getD_set_mono {listed : Array Bool} {i j : Nat} (h : listed.getD j false = true) : (listed.setIfInBounds i true).getD j false = true := by
  by_cases hij : i = j
  · subst hij
    rcases Nat.lt_or_ge i listed.size with h' | h'
    · exact getD_set_is h'
    · simp [Array.getElem?_eq_none h'] at h
  · rwa [getD_setb_ne false hij]

/-- one more is listed -/
theorem PoolI.more {fs fs' : List (Nat × Nat)} {fuel : Nat} {listed : Array Bool} {y : Nat → Value} {w w' : World} {i : Nat} {o : Oper} {v : Value} (hds : (l.take m).map (·.dst) = ds) (hd : dstOk ds = true) (hR : Stay R)
    (hI : PoolI own md R foot w0 a0 l m ds fol fs (fuel + 1) listed (fill ds 0 y a0) w) (hy : ∀ j, listed.getD j false = true → At R j (y j) w ∧ ∀ b ∈ foots foot j (y j), b < w.heap.size)
    (hp : ∀ i j, i ≠ j → j ∈ own → listed.getD i false = true → listed.getD j false = true → ∀ b ∈ foots foot i (y i), b ∉ foots foot j (y j))
    (hol : l[i]? = some o) (him : i < m) (hfal : listed.getD i false = false) (hw : ∀ j ∈ waits md o, listed.getD j false = true)
    (hr : At R i v w') (hx : Ext w w') (he : Ext w0 w) (hfo : ∀ b ∈ foots foot i v, New own foot (waits md o) y i w w' b)
    (hf1 : ∀ p ∈ fol, p ∉ fs' → (listed.setIfInBounds i true).getD p.2 false = true → (listed.setIfInBounds i true).getD p.1 false = true)
    (hf2 : ∀ p ∈ fs', p ∈ fol ∧ (listed.setIfInBounds i true).getD p.1 false = false ∧ (listed.setIfInBounds i true).getD p.2 false = true) :
    PoolI own md R foot w0 a0 l m ds fol fs' fuel (listed.setIfInBounds i true) ((fill ds 0 y a0).put o.dst v) w' := by
  obtain ⟨hsz, hc, hlate, hcl, -, -, -⟩ := hI
  have hln : i < l.length := (List.getElem?_eq_some_iff.1 hol).1
  have hil : i < listed.size := by omega
  refine ⟨by simpa using hsz, ?_, ?_, ?_, hf1, hf2, upd y i v, ?_, he.trans hx, ?_, ?_⟩
  · have : (listed.setIfInBounds i true).toList = listed.toList.set i true := by simp
    rw [this, List.countP_set (by simpa using hil)]
    have h1 : listed.toList[i]'(by simpa using hil) = false := by simpa [hil] using hfal
    rw [h1]
    simp only [Bool.not_false, Bool.not_true, if_true, Bool.false_eq_true, if_false]
    omega
  · intro j hj
    rw [getD_setb_ne false (show i ≠ j by omega)]
    exact hlate j hj
  · intro j oj hoj hj k hk
    by_cases hji : j = i
    · subst hji
      rw [hol] at hoj
      injection hoj with hoj
      subst hoj
      exact getD_set_mono (hw k hk)
    · rw [getD_setb_ne false (Ne.symm hji)] at hj
      exact getD_set_mono (hcl j oj hoj hj k hk)
  · have := fill_put v ds 0 i y a0 o.dst hd (by rw [← hds, List.getElem?_map, List.getElem?_take, if_pos him, hol]; rfl)
    rwa [Nat.zero_add] at this
  · intro j hj
    by_cases hji : j = i
    · subst hji
      rw [upd_self]
      refine ⟨hr, fun b hb => ?_⟩
      rcases hfo b hb with h | ⟨_, t, ht, _, hbt⟩
      · exact h.2
      · exact Nat.lt_of_lt_of_le ((hy t (hw t ht)).2 b hbt) hx.size
    · rw [upd_ne y v hji]
      have hj' : listed.getD j false = true := by rwa [getD_setb_ne false (Ne.symm hji)] at hj
      exact ⟨hR.get _ _ _ _ hx (hy j hj').1, fun b hb => Nat.lt_of_lt_of_le ((hy j hj').2 b hb) hx.size⟩
  · intro j k hjk hko hj hk b hb
    by_cases hji : j = i
    · subst hji
      have hk' : listed.getD k false = true := by rwa [getD_setb_ne false hjk] at hk
      rw [upd_self] at hb
      rw [upd_ne y v (Ne.symm hjk)]
      intro hb2
      have h1 := (hy k hk').2 b hb2
      rcases hfo b hb with h | ⟨_, t, ht, hto, hbt⟩
      · omega
      · exact hp t k (fun e => hto (e ▸ hko)) hko (hw t ht) hk' b hbt hb2
    · have hj' : listed.getD j false = true := by rwa [getD_setb_ne false (Ne.symm hji)] at hj
      rw [upd_ne y v hji] at hb
      by_cases hki : k = i
      · subst hki
        rw [upd_self]
        intro hb2
        have h1 := (hy j hj').2 b hb
        rcases hfo b hb2 with h | ⟨h, _⟩
        · omega
        · exact h hko
      · have hk' : listed.getD k false = true := by rwa [getD_setb_ne false (Ne.symm hki)] at hk
        rw [upd_ne y v hki]
        exact hp j k hjk hko hj' hk' b hb

/-- the followers are taken -/
theorem PoolI.take (hds : (l.take m).map (·.dst) = ds) (hd : dstOk ds = true) (hF : folB md l m fol = true) (hR : Stay R) (hQ : ∀ c a a' w, Q (.panic c) a w → Q (.panic c) a' w)
    (folw : ∀ p ∈ fol, ∀ o, l[p.1]? = some o → Fol P md R foot w0 a0 l ds p.1 o) : ∀ (fs : List (Nat × Nat)) (n : Nat),
    (∀ fuel listed a w, fuel ≤ n → PoolI own md R foot w0 a0 l m ds fol [] fuel listed a w → wpAny P md l.toArray Q fuel listed a w) →
    fs.Nodup → ∀ fuel listed a w, fuel ≤ n → PoolI own md R foot w0 a0 l m ds fol fs fuel listed a w → wpAny P md l.toArray Q fuel listed a w
  | [], _, ih, _, fuel, listed, a, w, hn, hI => ih fuel listed a w hn hI
  | p :: fs, n, ih, hnd, fuel, listed, a, w, hn, hI => by
    have hI0 := hI
    obtain ⟨hsz, hc, hlate, hcl, hf1, hf2, y, rfl, he, hy, hp⟩ := hI
    obtain ⟨hpf, hp1, hp2⟩ := hf2 p (List.mem_cons_self ..)
    have hB := hF
    simp only [folB, Bool.and_eq_true, decide_eq_true_eq] at hB
    obtain ⟨⟨hsel, hnod⟩, hall⟩ := hB
    have hb := List.all_eq_true.1 hall p hpf
    simp only [Bool.and_eq_true, decide_eq_true_eq] at hb
    obtain ⟨⟨⟨⟨hpm, hpm2⟩, hno⟩, hwt⟩, hfree⟩ := hb
    cases ho : l[p.1]? with
    | none => rw [ho] at hwt; cases hwt
    | some o =>
      rw [ho] at hwt
      simp only [Bool.or_eq_true, decide_eq_true_eq] at hwt
      have hln : p.1 < l.length := (List.getElem?_eq_some_iff.1 ho).1
      have hil : p.1 < listed.size := by omega
      have hoa : l.toArray[p.1]? = some o := by simpa using ho
      have hws : ∀ j ∈ waits md o, listed.getD j false = true := by
        intro j hj
        rcases hwt with hwt | hwt
        · rw [hwt, List.mem_singleton] at hj
          subst hj; exact hp2
        · rw [hwt] at hj; cases hj
      obtain ⟨v, hyl, hrv, hfv⟩ := folw p hpf o ho y w he (Facts.of (fun j hj => (hy j (hws j hj)).1))
      have hpos : 0 < fuel := by
        rw [hc]
        exact List.countP_pos_iff.2 ⟨listed.toList[p.1]'(by simpa using hil), List.getElem_mem _, by
          have : listed.toList[p.1]'(by simpa using hil) = false := by simpa [hil] using hp1
          rw [this]; rfl⟩
      obtain ⟨f, rfl⟩ : ∃ f, fuel = f + 1 := ⟨fuel - 1, by omega⟩
      have hready : p.1 ∈ Region.ready md l.toArray listed := mem_ready.2 ⟨by simpa [hil] using hp1, o, hoa, fun e he' hb => hws _ (waits_iff.2 ⟨e, he', hb, rfl⟩)⟩
      refine wpAny_first hoa (Region.noSelect_spec hsel) (fun c a w => hQ c _ _ w) f listed _ w ?_ hready hyl ?_
      · intro j oj hoj hji hun hnw
        refine Region.free_spec hoa hfree j oj hoj hji ?_ hnw
        have hjl : j < l.length := by have := (Array.getElem?_eq_some_iff.1 hoj).1; simpa using this
        have hjs : j < listed.size := by omega
        have hnj : j ∉ closed md l l.length [p.2] := fun hm => by
          have := closed_listed hcl l.length [p.2] (fun i hi => by rw [List.mem_singleton] at hi; subst hi; exact hp2) j hm
          simp [hjs] at this hun
          rw [this] at hun; cases hun
        simp [hjl, hnj]
      · refine PoolI.take hds hd hF hR hQ folw fs n ih (List.nodup_cons.1 hnd).2 f _ _ w (by omega) ?_
        have hnp := (List.nodup_cons.1 hnd).1
        refine PoolI.more hds hd hR hI0 hy hp ho hpm hp1 hws hrv (Ext.refl w) he (by rw [hfv]; intro b hb; cases hb) ?_ ?_
        · intro q hq hqs
          by_cases hqp : q = p
          · subst hqp
            intro _
            exact getD_set_is hil
          · have h1 := hf1 q hq (by simp [hqp, hqs])
            have hne1 : p.1 ≠ q.1 := fun e => hqp (by
              have hinj := List.inj_on_of_nodup_map' hnod hq hpf e.symm
              exact hinj)
            have hb2 := List.all_eq_true.1 hall q hq
            simp only [Bool.and_eq_true, decide_eq_true_eq] at hb2
            have hne2 : p.1 ≠ q.2 := by
              have := List.all_eq_true.1 hb2.1.1.2 p hpf
              simpa using this
            rw [getD_setb_ne false hne1, getD_setb_ne false hne2]
            exact h1
        · intro q hq
          obtain ⟨h1, h2, h3⟩ := hf2 q (List.mem_cons_of_mem _ hq)
          have hne1 : p.1 ≠ q.1 := fun e => by
            have hinj := List.inj_on_of_nodup_map' hnod h1 hpf e.symm
            subst hinj
            exact hnp hq
          exact ⟨h1, by rw [getD_setb_ne false hne1]; exact h2, getD_set_mono h3⟩

theorem wpAny_pool_go (hm : m ≤ l.length) (hds : (l.take m).map (·.dst) = ds) (hd : dstOk ds = true) (hb : backB md l.toArray m = true) (hF : folB md l m fol = true) (hw : lateB md l m fol = true)
    (hseq : Region.seqB md l.toArray (l.length - m) m (Array.replicate m true ++ Array.replicate (l.length - m) false) = true) (hR : Stay R) (hQ : ∀ c a a' w, Q (.panic c) a w → Q (.panic c) a' w)
    (folw : ∀ p ∈ fol, ∀ o, l[p.1]? = some o → Fol P md R foot w0 a0 l ds p.1 o)
    (step : ∀ i o, i < m → (∀ p ∈ fol, p.1 ≠ i) → l[i]? = some o → Step own P md Q R foot w0 a0 l ds i o)
    (done : ∀ y w, Ext w0 w → (∀ j, j < m → At R j (y j) w ∧ ∀ b ∈ foots foot j (y j), b < w.heap.size) →
      (∀ i j, i ≠ j → j ∈ own → i < m → j < m → ∀ b ∈ foots foot i (y i), b ∉ foots foot j (y j)) → wpList P l.toArray Q (l.drop m) (fill ds 0 y a0) w) :
    ∀ (n : Nat) (fuel : Nat) (listed : Array Bool) (a : Act) (w : World), fuel ≤ n → PoolI own md R foot w0 a0 l m ds fol [] fuel listed a w → wpAny P md l.toArray Q fuel listed a w := by
  intro n
  induction n with
  | zero =>
    intro fuel listed a w hn hI
    obtain rfl : fuel = 0 := by omega
    obtain ⟨hsz, hc, hlate, hcl, hf1, hf2, y, rfl, he, hf, hp⟩ := hI
    have hall : ∀ j, j < l.length → listed.getD j false = true := by
      intro j hj
      have h0 : listed.toList.countP (fun b => !b) = 0 := hc.symm
      rw [List.countP_eq_zero] at h0
      have := h0 (listed[j]'(by omega)) (by simp)
      have hj' : j < listed.size := by omega
      simp [hj']
      simpa using this
    have hml : l.length ≤ m := by
      rcases Nat.lt_or_ge m l.length with h | h
      · have := hall m h
        rw [hlate m (Nat.le_refl _)] at this
        cases this
      · exact h
    have hd0 : l.drop m = [] := List.drop_eq_nil_of_le hml
    refine ⟨?_, ?_⟩
    · rw [List.eq_nil_iff_forall_not_mem]
      intro i hi
      obtain ⟨hun, o, ho, _⟩ := mem_ready.1 hi
      have hil : i < l.length := by have := (Array.getElem?_eq_some_iff.1 ho).1; simpa using this
      have h1 := hall i hil
      have hi' : i < listed.size := by omega
      simp [hi'] at h1 hun
      rw [h1] at hun; cases hun
    · have := done y w he (fun j hj => hf j (hall j (by omega))) (fun i j hij ho hi hj => hp i j hij ho (hall i (by omega)) (hall j (by omega)))
      rw [hd0] at this
      exact this
  | succ n ih =>
    intro fuel listed a w hn hI
    have hI0 := hI
    obtain ⟨hsz, hc, hlate, hcl, hf1, hf2, y, rfl, he, hf, hp⟩ := hI
    have tf0 : ∀ j, j < l.length → listed.getD j true = true → listed.getD j false = true := by
      intro j hj this
      have hj' : j < listed.size := by omega
      simp [hj'] at this ⊢
      exact this
    rcases least_off (xs := listed) m with hall | ⟨i0, hi0, hu0, hlo0⟩
    · have tf : ∀ j, j < m → listed.getD j false = true := fun j hj => tf0 j (by omega) (hall j hj)
      have e : listed = Array.replicate m true ++ Array.replicate (l.length - m) false := by
        apply Array.ext_getElem?
        intro j
        rw [Array.getElem?_append]
        simp only [Array.size_replicate]
        split
        · rename_i h
          have := tf j h
          have hj' : j < listed.size := by omega
          simp [hj'] at this
          simp [hj', this, h]
        · rename_i h
          have := hlate j (by omega)
          rcases Nat.lt_or_ge j listed.size with hj' | hj'
          · simp [hj'] at this
            have h2 : j - m < l.length - m := by omega
            simp [hj', this, h2]
          · have h2 : ¬ j - m < l.length - m := by omega
            simp [hj', h2]
      have hfu : fuel = (l.drop m).length := by
        rw [hc, e]
        simp only [Array.toList_append, Array.toList_replicate, List.countP_append, List.countP_replicate, List.length_drop]
        simp
      rw [hfu, e]
      refine wpAny_of_seq (md := md) (Q' := Q) (l.drop m) m _ _ w (fun j => by simp) (by rw [List.length_drop]; exact hseq) ?_
      exact done y w he (fun j hj => hf j (tf j hj)) (fun i j hij ho hi hj => hp i j hij ho (tf i hi) (tf j hj))
    · have hlt0 : i0 < l.length := by omega
      have hil0 : i0 < listed.size := by omega
      have hi1 : i0 ∈ Region.ready md l.toArray listed := by
        have h1 := List.all_eq_true.1 hb i0 (List.mem_range.2 hi0)
        refine mem_ready.2 ⟨hu0, l[i0], by simp [hlt0], fun e he hbi => ?_⟩
        simp only [List.getElem?_toArray, List.getElem?_eq_getElem hlt0, Bool.and_eq_true] at h1
        have h2 := Array.all_eq_true_iff_forall_mem.1 h1.1 e he
        simp only [hbi, Bool.not_true, Bool.false_or, decide_eq_true_eq] at h2
        exact tf0 _ (by omega) (hlo0 e.on h2)
      have hpos : 0 < fuel := by
        rw [hc]
        exact List.countP_pos_iff.2 ⟨listed.toList[i0]'(by simpa using hil0), List.getElem_mem _, by
          have : listed.toList[i0]'(by simpa using hil0) = false := by simpa [hil0] using hu0
          rw [this]; rfl⟩
      obtain ⟨f, rfl⟩ : ∃ f, fuel = f + 1 := ⟨fuel - 1, by omega⟩
      refine ⟨fun h0 => (by rw [h0] at hi1; cases hi1), fun i hi => ?_⟩
      obtain ⟨hun, o, ho, hall⟩ := mem_ready.1 hi
      have hol : l[i]? = some o := by simpa using ho
      have hln : i < l.length := (List.getElem?_eq_some_iff.1 hol).1
      have hil : i < listed.size := by omega
      have hfal : listed.getD i false = false := by
        simp [hil] at hun ⊢; exact hun
      have hws : ∀ j ∈ waits md o, listed.getD j false = true := by
        intro j hj
        obtain ⟨e, he, hbi, rfl⟩ := waits_iff.1 hj
        exact hall e he hbi
      have hB := hF
      simp only [folB, Bool.and_eq_true, decide_eq_true_eq] at hB
      obtain ⟨⟨hsel, hnod⟩, hfall⟩ := hB
      have him : i < m := by
        rcases Nat.lt_or_ge i m with h | h
        · exact h
        · exfalso
          unfold lateB at hw
          have hmem : o ∈ l.drop m := by
            rw [List.mem_iff_getElem?]
            exact ⟨i - m, by rw [List.getElem?_drop, show m + (i - m) = i by omega]; exact hol⟩
          have h1 := List.all_eq_true.1 hw o hmem
          have hnf : ∀ k, k < m → (∀ p ∈ fol, p.1 ≠ k) → listed.getD k false = true := by
            intro k hk hno
            have h2 := List.all_eq_true.1 h1 k (List.mem_range.2 hk)
            rw [Bool.or_eq_true] at h2
            rcases h2 with h2 | h2
            · rw [List.any_eq_true] at h2
              obtain ⟨p, hp, h3⟩ := h2
              exact absurd (of_decide_eq_true h3) (hno p hp)
            · exact closed_listed hcl _ _ hws k (by simpa using h2)
          have hbad : listed.getD i0 false = true := by
            by_cases hex : ∃ p ∈ fol, p.1 = i0
            · obtain ⟨p, hp, rfl⟩ := hex
              have hb2 := List.all_eq_true.1 hfall p hp
              simp only [Bool.and_eq_true, decide_eq_true_eq] at hb2
              refine hf1 p hp (by simp) ?_
              refine hnf p.2 hb2.1.1.1.2 (fun q hq => ?_)
              have := List.all_eq_true.1 hb2.1.1.2 q hq
              simpa using this
            · exact hnf i0 hi0 (fun p hp hpe => hex ⟨p, hp, hpe⟩)
          simp [hil0] at hbad hu0
          rw [hbad] at hu0; cases hu0
      by_cases hfp : ∃ p ∈ fol, p.1 = i
      · obtain ⟨p, hpf, rfl⟩ := hfp
        have hb2 := List.all_eq_true.1 hfall p hpf
        simp only [Bool.and_eq_true, decide_eq_true_eq] at hb2
        obtain ⟨v, hyl, hrv, hfv⟩ := folw p hpf o hol y w he (Facts.of (fun j hj => (hf j (hws j hj)).1))
        refine Yields.wpOp ho hyl ?_
        refine ih f _ _ w (by omega) ?_
        refine PoolI.more hds hd hR hI0 hf hp hol him hfal hws hrv (Ext.refl w) he (by rw [hfv]; intro b hb; cases hb) ?_ (by intro q hq; cases hq)
        intro q hq _
        by_cases hqp : p.1 = q.1
        · intro _; rw [← hqp]; exact getD_set_is hil
        · have hne2 : p.1 ≠ q.2 := by
            have hq2 := List.all_eq_true.1 hfall q hq
            simp only [Bool.and_eq_true, decide_eq_true_eq] at hq2
            have := List.all_eq_true.1 hq2.1.1.2 p hpf
            simpa using this
          rw [getD_setb_ne false hqp, getD_setb_ne false hne2]
          exact hf1 q hq (by simp)
      · have hif : ∀ p ∈ fol, p.1 ≠ i := fun p hp e => hfp ⟨p, hp, e⟩
        refine wpOp_mono (fun a' w' h => ?_) (step i o him hif hol y w he (Facts.of (fun j hj => (hf j (hws j hj)).1)))
        obtain ⟨v, rfl, hr, hx, hfo⟩ := h
        refine PoolI.take (P := P) (Q := Q) hds hd hF hR hQ folw (fol.filter fun p => decide (p.2 = i) && !listed.getD p.1 false) n ih ?_ f _ _ w' (by omega) ?_
        · exact List.Nodup.sublist' (List.filter_sublist) (List.nodup_of_map' hnod)
        · refine PoolI.more hds hd hR hI0 hf hp hol him hfal hws hr hx he hfo ?_ ?_
          · intro p hpf hps hp2
            by_cases e : p.2 = i
            · cases hp1 : listed.getD p.1 false with
              | true => exact getD_set_mono hp1
              | false => exact absurd (List.mem_filter.2 ⟨hpf, by rw [hp1]; simp [e]⟩) hps
            · rw [getD_setb_ne false (fun e' => e e'.symm)] at hp2
              exact getD_set_mono (hf1 p hpf (by simp) hp2)
          · intro p hps
            obtain ⟨hpf, he2⟩ := List.mem_filter.1 hps
            rw [Bool.and_eq_true] at he2
            have he3 : p.2 = i := of_decide_eq_true he2.1
            refine ⟨hpf, ?_, by rw [he3]; exact getD_set_is hil⟩
            rw [getD_setb_ne false (Ne.symm (hif p hpf))]
            simpa using he2.2

theorem wpAny_pool (hm : m ≤ l.length) (hds : (l.take m).map (·.dst) = ds) (hd : dstOk ds = true) (hb : backB md l.toArray m = true) (hF : folB md l m fol = true) (hw : lateB md l m fol = true)
    (hseq : Region.seqB md l.toArray (l.length - m) m (Array.replicate m true ++ Array.replicate (l.length - m) false) = true) (hR : Stay R) (hQ : ∀ c a a' w, Q (.panic c) a w → Q (.panic c) a' w)
    (folw : ∀ p ∈ fol, ∀ o, l[p.1]? = some o → Fol P md R foot w0 a0 l ds p.1 o)
    (step : ∀ i o, i < m → (∀ p ∈ fol, p.1 ≠ i) → l[i]? = some o → Step own P md Q R foot w0 a0 l ds i o)
    (done : ∀ y w, Ext w0 w → (∀ j, j < m → At R j (y j) w ∧ ∀ b ∈ foots foot j (y j), b < w.heap.size) →
      (∀ i j, i ≠ j → j ∈ own → i < m → j < m → ∀ b ∈ foots foot i (y i), b ∉ foots foot j (y j)) → wpList P l.toArray Q (l.drop m) (fill ds 0 y a0) w) :
    wpAny P md l.toArray Q l.length (Array.replicate l.length false) a0 w0 := by
  have z : ∀ j, (Array.replicate l.length false).getD j false = false := fun j => getD_replicate_false _ _
  refine wpAny_pool_go hm hds hd hb hF hw hseq hR hQ folw step done _ _ _ _ _ (Nat.le_refl _) ⟨by simp, ?_, fun j _ => z j, ?_, ?_, ?_, mine ds a0, (fill_own a0 ds 0 _ (fun j d ho => by rw [Nat.zero_add]; simp [mine, ho])).symm, Ext.refl _, ?_, ?_⟩
  · rw [Array.toList_replicate, List.countP_replicate]; simp
  · intro j o _ hj; rw [z] at hj; cases hj
  · intro p _ _ h; rw [z] at h; cases h
  · intro p hp; cases hp
  · intro j hj; rw [z] at hj; cases hj
  · intro i j _ _ hi; rw [z] at hi; cases hi

/-- the operations from number k on -/
def Steps (own : List Nat) (P : Program) (md : Region.Mode) (Q : Exit → Act → World → Prop) (R : List (Value → World → Prop)) (foot : List (Value → List Nat)) (w0 : World) (a0 : Act) (l : List Oper) (ds : List (Option Tmp)) (fol : List (Nat × Nat)) (p : List Oper) (k : Nat) : Prop :=
  ∀ i o, p[i]? = some o → if fol.any (fun q => decide (q.1 = k + i)) = true then Fol P md R foot w0 a0 l ds (k + i) o else Step own P md Q R foot w0 a0 l ds (k + i) o
theorem Steps.nil {k : Nat} : Steps own P md Q R foot w0 a0 l ds fol [] k := fun _ _ h => by simp at h
theorem Steps.cons {o : Oper} {p : List Oper} {k : Nat} (r : Value → World → Prop) (ns : List Nat) (hr : At R k = r) (hn : waits md o = ns) (ho : l[k]? = some o) (hk : fol.any (fun q => decide (q.1 = k)) = false)
    (h : ∀ y w, Ext w0 w → Facts R y w ns → ∀ K : Act → World → Prop, Shut (∀ v w', r v w' → Ext w w' → (∀ b ∈ foots foot k v, New own foot ns y k w w' b) → K ((fill ds 0 y a0).put o.dst v) w') →
      Box (if Region.wanted o (yielded l.toArray (fill ds 0 y a0).tmps) = true then Oper.wp P o (fill ds 0 y a0) w K Q else K ((fill ds 0 y a0).put o.dst undef) w))
    (hs : Steps own P md Q R foot w0 a0 l ds fol p (k + 1)) : Steps own P md Q R foot w0 a0 l ds fol (o :: p) k := by
  intro i q hp
  cases i with
  | zero =>
    simp only [List.getElem?_cons_zero, Option.some.injEq] at hp
    subst hp
    rw [Nat.add_zero, hk]
    simp only [Bool.false_eq_true, if_false]
    intro y w he hf
    rw [hn] at hf
    refine wpOp_step (by simpa using ho) (fun K' hK => (h y w he hf K' (fun v w' h1 h2 h3 => hK _ _ ⟨v, rfl, ?_, h2, ?_⟩)).out)
    · show At R k v w'
      rw [hr]; exact h1
    · rw [hn]; exact h3
  | succ i =>
    have := hs i q (by simpa using hp)
    rwa [show k + 1 + i = k + (i + 1) by omega] at this
theorem Steps.flw {o : Oper} {p : List Oper} {k : Nat} (r : Value → World → Prop) (ns : List Nat) (hr : At R k = r) (hn : waits md o = ns) (hk : fol.any (fun q => decide (q.1 = k)) = true) (hft : ∀ v, foots foot k v = [])
    (h : ∀ y w, Ext w0 w → Facts R y w ns → ∃ v, (Region.wanted o (yielded l.toArray (fill ds 0 y a0).tmps) = true ∧ ∀ w, (execOp (fill ds 0 y a0).eval o).run P w = .ok (.value v) w) ∧ r v w)
    (hs : Steps own P md Q R foot w0 a0 l ds fol p (k + 1)) : Steps own P md Q R foot w0 a0 l ds fol (o :: p) k := by
  intro i q hp
  cases i with
  | zero =>
    simp only [List.getElem?_cons_zero, Option.some.injEq] at hp
    subst hp
    rw [Nat.add_zero, hk]
    simp only [if_true]
    intro y w he hf
    rw [hn] at hf
    obtain ⟨v, h1, h2⟩ := h y w he hf
    exact ⟨v, .inl h1, by rw [hr]; exact h2, hft v⟩
  | succ i =>
    have := hs i q (by simpa using hp)
    rwa [show k + 1 + i = k + (i + 1) by omega] at this
end

/-- A drawn region: its first m operations in whatever order, each walked once; then the others, which wait for them, one after another. -/
theorem wp_pool {P : Program} {Q : Exit → Act → World → Prop} {id : Nat} {a : Act} {w : World} {l : List Oper} (m : Nat) (ds : List (Option Tmp)) (fol : List (Nat × Nat)) (own : List Nat) (R : List (Value → World → Prop)) (foot : List (Value → List Nat)) (hmo : P.follows .mixedOrders = true)
    (hm : decide (m ≤ l.length) = true) (hds : (l.take m).map (·.dst) = ds) (hd : dstOk ds = true) (hb : backB .any l.toArray m = true) (hF : folB .any l m fol = true) (hw : lateB .any l m fol = true)
    (hseq : Region.seqB .any l.toArray (l.length - m) m (Array.replicate m true ++ Array.replicate (l.length - m) false) = true) (hQ : ∀ c a a' w, Q (.panic c) a w → Q (.panic c) a' w) (hR : Stay R)
    (steps : Steps own P .any Q R foot w.drew a l ds fol (l.take m) 0)
    (done : ∀ y X, Ext w X → Facts R y X (List.range m) → (∀ j, j < m → ∀ b ∈ foots foot j (y j), b < X.heap.size) →
      (∀ i j, i ≠ j → j ∈ own → i < m → j < m → ∀ b ∈ foots foot i (y i), b ∉ foots foot j (y j)) → Box (wpList P l.toArray Q (l.drop m) (fill ds 0 y a) X)) : (Code.region id l.toArray true).wp P Q a w := by
  refine wp_region_any hmo ?_
  have hF' := hF
  simp only [folB, Bool.and_eq_true, decide_eq_true_eq] at hF'
  have := wpAny_pool (own := own) (P := P) (md := .any) (Q := Q) (R := R) (foot := foot) (w0 := w.drew) (a0 := a) (l := l) (m := m) (fol := fol) (of_decide_eq_true hm) hds hd hb hF hw hseq hR hQ
    (fun p hp o ho => by
      have hb2 := List.all_eq_true.1 hF'.2 p hp
      simp only [Bool.and_eq_true, decide_eq_true_eq] at hb2
      have h1 := steps p.1 o (by rw [List.getElem?_take, if_pos hb2.1.1.1.1]; exact ho)
      rwa [Nat.zero_add, if_pos (List.any_eq_true.2 ⟨p, hp, by simp⟩)] at h1)
    (fun i o hi hno ho => by
      have h1 := steps i o (by rw [List.getElem?_take, if_pos hi]; exact ho)
      rwa [Nat.zero_add, if_neg (by rw [List.any_eq_true]; rintro ⟨p, hp, h⟩; exact hno p hp (of_decide_eq_true h))] at h1)
    (fun y X he hf hp => (done y X ((Ext.drw (Ext.refl w)).trans he) (Facts.of (fun j hj => (hf j (by simpa using hj)).1)) (fun j hj => (hf j hj).2) (fun i j hij ho hi hj => hp i j hij ho hi hj)).out)
  simpa using this

/-- the blocks of what an operation yields: none, that of a pointer, of a slice, of a struct whose third field is a slice, of such a struct and an error -/
def noF : Value → List Nat := fun _ => []
def ptrF : Value → List Nat | .pointer (some a) => [a.block] | _ => []
def slcF : Value → List Nat | .slice (some a) _ _ => [a.block] | _ => []
def aggF : Value → List Nat | .agg xs => slcF (xs.getD 2 undef) | _ => []
def tupF : Value → List Nat | .tuple xs => aggF (xs.getD 0 undef) | _ => []
section
variable {own : List Nat} {foot : List (Value → List Nat)} {ns : List Nat} {y : Nat → Value} {i : Nat} {w w' : World}
theorem New.ptr {g o : Nat} (h1 : w.heap.size ≤ g) (h2 : g < w'.heap.size) : ∀ b ∈ ptrF (.pointer (some ⟨g, o, none⟩)), New own foot ns y i w w' b := fun b h => by
  have : b = g := by simpa [ptrF] using h
  exact .inl (by omega)
theorem New.slc {A : Option Addr} {n c : Nat} (h : ∀ a, A = some a → w.heap.size ≤ a.block ∧ a.block < w'.heap.size) : ∀ b ∈ slcF (.slice A n c), New own foot ns y i w w' b := fun b hb => by
  cases A with
  | none => cases hb
  | some a =>
    have : b = a.block := by simpa [slcF] using hb
    subst this
    exact .inl (h a rfl)
theorem New.from (t : Nat) (ht : t ∈ ns) (hi : i ∉ own) (hto : t ∉ own) {v : Value} {f : Value → List Nat} (hv : ∀ b ∈ f v, b ∈ foots foot t (y t)) : ∀ b ∈ f v, New own foot ns y i w w' b := fun b hb =>
  .inr ⟨hi, t, ht, hto, hv b hb⟩
end
theorem sep_ne {u v : Value} {g h i j : Nat} (hs : ∀ b ∈ ptrF u, b ∉ ptrF v) (hu : u = .pointer (some ⟨g, i, none⟩)) (hv : v = .pointer (some ⟨h, j, none⟩)) : g ≠ h := fun e => by
  subst hu hv e
  exact hs g (by simp [ptrF]) (by simp [ptrF])
theorem sep_slc {f : Value → List Nat} {u v : Value} {g i n c : Nat} {A : Option Addr} (hs : ∀ b ∈ f u, b ∉ ptrF v) (hu : f u = slcF (.slice A n c)) (hv : v = .pointer (some ⟨g, i, none⟩)) : ∀ a, A = some a → a.block ≠ g := fun a ha e => by
  subst hv ha
  exact hs g (by rw [hu, ← e]; simp [slcF]) (by simp [ptrF])
end Go.Proofs.YtmlopkkbgpfdnaaGreatDoor
namespace Go.Proofs.YtmlopkkbgpfdnaaGreatDoor

section
variable {B P v1 v2 dl head u2 ul g r : Nat}
/-- a guess that the next word refutes is too high -/
theorem kd_high (hh : head = g * v1 + r) (hu : ul < P) (hg : r * B + u2 < g * v2) : (head * B + u2) * P + ul < g * ((v1 * B + v2) * P + dl) := by
  have h1 : head * B + u2 + 1 ≤ g * (v1 * B + v2) := by
    rw [Nat.mul_add, ← Nat.mul_assoc, hh, Nat.add_mul]; omega
  have h2 := Nat.mul_le_mul_right P h1
  have h3 : g * ((v1 * B + v2) * P + dl) = g * (v1 * B + v2) * P + g * dl := by rw [Nat.mul_add, Nat.mul_assoc]
  have h4 : (head * B + u2 + 1) * P = (head * B + u2) * P + P := Nat.succ_mul _ _
  omega
/-- a guess whose rest is a word's range or more is not too high -/
theorem kd_rest (hh : head = g * v1 + r) (hd : dl < P) (hv : v2 < B) (hr : B ≤ r) (hgB : g < B) : g * ((v1 * B + v2) * P + dl) ≤ (head * B + u2) * P + ul := by
  have h0 : g * (v2 + 1) ≤ B * B := Nat.mul_le_mul (by omega) (by omega)
  have h0' : B * B ≤ r * B := Nat.mul_le_mul_right B hr
  have h1 : g * (v1 * B + v2) + g ≤ head * B := by
    rw [Nat.mul_add, ← Nat.mul_assoc, hh, Nat.add_mul]
    rw [Nat.mul_add, Nat.mul_one] at h0
    omega
  have h2 := Nat.mul_le_mul_right P (Nat.le_trans h1 (Nat.le_add_right _ u2))
  have h3 : g * ((v1 * B + v2) * P + dl) = g * (v1 * B + v2) * P + g * dl := by rw [Nat.mul_add, Nat.mul_assoc]
  have h4 : (g * (v1 * B + v2) + g) * P = g * (v1 * B + v2) * P + g * P := Nat.add_mul _ _ _
  have h5 : g * dl ≤ g * P := Nat.mul_le_mul_left g (by omega)
  omega
/-- a guess that the next word does not refute is at most one too high -/
theorem kd_one (hh : head = g * v1 + r) (hd : dl < P) (hv : 1 ≤ v1) (hg : g * v2 ≤ r * B + u2) (hgB : g < B) : g * ((v1 * B + v2) * P + dl) < ((head * B + u2) * P + ul) + ((v1 * B + v2) * P + dl) := by
  have h1 : g * (v1 * B + v2) ≤ head * B + u2 := by
    rw [Nat.mul_add, ← Nat.mul_assoc, hh, Nat.add_mul]; omega
  have h2 := Nat.mul_le_mul_right P h1
  have h3 : g * ((v1 * B + v2) * P + dl) = g * (v1 * B + v2) * P + g * dl := by rw [Nat.mul_add, Nat.mul_assoc]
  have h4 : g * dl ≤ B * dl := Nat.mul_le_mul_right dl (by omega)
  have h5 : B * dl < B * P := Nat.mul_lt_mul_of_pos_left hd (by omega)
  have h6 : B * P ≤ (v1 * B + v2) * P := Nat.mul_le_mul_right P (by
    have := Nat.mul_le_mul_right B hv
    omega)
  omega
/-- a guess whose rest is a word's range or more is a word -/
theorem kd_word (hh : head = g * v1 + r) (hr : B ≤ r) (hhd : head < v1 * B + B) : g < B := by
  by_cases h : g < B
  · exact h
  · have h1 := Nat.mul_le_mul_right v1 (show B ≤ g by omega)
    rw [Nat.mul_comm B v1] at h1
    omega
end
end Go.Proofs.YtmlopkkbgpfdnaaGreatDoor
namespace Go.Proofs.YtmlopkkbgpfdnaaGreatDoor

theorem val_dg {l : List Nat} (ho : Ok l) (i : Nat) : l.getD i 0 = dg (val l) i := by
  induction l generalizing i with
  | nil => simp [val, dg]
  | cons x r ih =>
    have hx := ho.cons.1
    cases i with
    | zero => simp only [List.getD_cons_zero, val, dg, Nat.pow_zero, Nat.div_one]; omega
    | succ i =>
      rw [List.getD_cons_succ, ih ho.cons.2]
      unfold dg
      rw [Nat.pow_succ, Nat.mul_comm, ← Nat.div_div_eq_div_mul]
      congr 2
      simp only [val]; omega

theorem dg_div (x i k : Nat) : dg (x / 4294967296 ^ i) k = dg x (i + k) := by
  unfold dg; rw [Nat.div_div_eq_div_mul, ← Nat.pow_add]

theorem pow_pos' (k : Nat) : 0 < 4294967296 ^ k := Nat.pow_pos (by omega)

/-- the top of a number of m + 3 words -/
theorem top3 {x m : Nat} (h : x < 4294967296 ^ (m + 3)) :
    x = ((dg x (m + 2) * 4294967296 + dg x (m + 1)) * 4294967296 + dg x m) * 4294967296 ^ m + x % 4294967296 ^ m := by
  have h1 := mod_succ x m
  have h2 := mod_succ x (m + 1)
  have h3 := mod_succ x (m + 2)
  rw [Nat.mod_eq_of_lt h] at h3
  have e1 : 4294967296 ^ (m + 1) = 4294967296 ^ m * 4294967296 := Nat.pow_succ ..
  have e2 : 4294967296 ^ (m + 2) = 4294967296 ^ m * 4294967296 * 4294967296 := by rw [Nat.pow_succ, e1]
  rw [e1] at h2
  have h2' : x % 4294967296 ^ (m + 2) = x % (4294967296 ^ m * 4294967296) + 4294967296 ^ m * 4294967296 * dg x (m + 1) := h2
  rw [e2] at h3 h2'
  rw [e1] at h1
  have a1 : 4294967296 ^ m * 4294967296 * 4294967296 * dg x (m + 2) = dg x (m + 2) * 4294967296 * 4294967296 * 4294967296 ^ m := by ac_rfl
  have a2 : 4294967296 ^ m * 4294967296 * dg x (m + 1) = dg x (m + 1) * 4294967296 * 4294967296 ^ m := by ac_rfl
  have a3 : 4294967296 ^ m * dg x m = dg x m * 4294967296 ^ m := by ac_rfl
  rw [Nat.add_mul, Nat.add_mul, Nat.add_mul]
  omega

/-- the top of a number of m + 2 words -/
theorem top2 {x m : Nat} (h : x < 4294967296 ^ (m + 2)) :
    x = (dg x (m + 1) * 4294967296 + dg x m) * 4294967296 ^ m + x % 4294967296 ^ m := by
  have h0 : dg x (m + 2) = 0 := dg_ge h
  have := top3 (x := x) (m := m) (Nat.lt_of_lt_of_le h (Nat.pow_le_pow_right (by omega) (by omega)))
  rw [h0] at this
  simpa using this

theorem kd_head {B P v1 v2 dl head u2 ul : Nat} (hd : dl < P) (hv : v2 < B) (h : (head * B + u2) * P + ul < ((v1 * B + v2) * P + dl) * B) : head < v1 * B + B := by
  rcases Nat.lt_or_ge head (v1 * B + B) with g | g
  · exact g
  · have h2 : (v1 * B + B) * B * P ≤ (head * B + u2) * P := Nat.mul_le_mul_right P (Nat.le_trans (Nat.mul_le_mul_right B g) (Nat.le_add_right _ _))
    have h4 : ((v1 * B + v2) * P + dl) * B ≤ ((v1 * B + v2) * P + P) * B := Nat.mul_le_mul_right B (by omega)
    have h5 : (v1 * B + v2) * P + P = (v1 * B + v2 + 1) * P := (Nat.succ_mul _ _).symm
    have h6 : (v1 * B + v2 + 1) * P * B ≤ (v1 * B + B) * P * B := Nat.mul_le_mul_right B (Nat.mul_le_mul_right P (by omega))
    have h8 : (v1 * B + B) * P * B = (v1 * B + B) * B * P := by ac_rfl
    rw [h5] at h4
    omega

/-- what a guess of a digit rests on -/
structure KD (U D P head u2 ul v1 v2 dl : Nat) : Prop where
  u : U = (head * 4294967296 + u2) * P + ul
  ul_lt : ul < P
  d : D = (v1 * 4294967296 + v2) * P + dl
  dl_lt : dl < P
  u2_lt : u2 < 4294967296
  v2_lt : v2 < 4294967296
  v1_ge : 2147483648 ≤ v1
  v1_lt : v1 < 4294967296
  lt : U < D * 4294967296

namespace KD
variable {U D P head u2 ul v1 v2 dl g r : Nat}
theorem dpos (k : KD U D P head u2 ul v1 v2 dl) : 0 < D := by
  rcases Nat.eq_zero_or_pos D with h | h
  · have := k.lt; rw [h] at this; omega
  · exact h
theorem q_lt (k : KD U D P head u2 ul v1 v2 dl) : U / D < 4294967296 := by
  rw [Nat.div_lt_iff_lt_mul k.dpos, Nat.mul_comm]; exact k.lt
theorem head_lt (k : KD U D P head u2 ul v1 v2 dl) : head < v1 * 4294967296 + 4294967296 := by
  have h1 := k.lt
  rw [k.u, k.d] at h1
  exact kd_head k.dl_lt k.v2_lt h1
theorem start (k : KD U D P head u2 ul v1 v2 dl) : U / D ≤ head / v1 := by
  have hv1 := k.v1_ge
  rw [Nat.le_div_iff_mul_le (by omega)]
  have h1 : U / D * D ≤ U := Nat.div_mul_le_self _ _
  have h2 : v1 * 4294967296 * P ≤ D := by
    rw [k.d, Nat.add_mul]; omega
  have h3 : U / D * (v1 * 4294967296 * P) ≤ U := Nat.le_trans (Nat.mul_le_mul_left _ h2) h1
  have hP : 0 < P := Nat.lt_of_le_of_lt (Nat.zero_le _) k.ul_lt
  have h4 : U < (head + 1) * (4294967296 * P) := by
    rw [k.u]
    have a := k.ul_lt
    have b : (head * 4294967296 + u2 + 1) * P ≤ (head * 4294967296 + 4294967296) * P := Nat.mul_le_mul_right P (by have := k.u2_lt; omega)
    rw [Nat.succ_mul] at b
    have c : (head * 4294967296 + 4294967296) * P = (head + 1) * (4294967296 * P) := by rw [← Nat.mul_assoc, Nat.add_mul head 1, Nat.one_mul]
    omega
  have h5 : U / D * v1 * (4294967296 * P) < (head + 1) * (4294967296 * P) := by
    have : U / D * v1 * (4294967296 * P) = U / D * (v1 * 4294967296 * P) := by ac_rfl
    omega
  have h6 := Nat.lt_of_mul_lt_mul_right h5
  omega
theorem high (k : KD U D P head u2 ul v1 v2 dl) (hh : head = g * v1 + r) (hg : r * 4294967296 + u2 < g * v2) : U / D < g := by
  rw [Nat.div_lt_iff_lt_mul k.dpos]
  have := kd_high (P := P) (dl := dl) (ul := ul) hh k.ul_lt hg
  rw [← k.u, ← k.d] at this
  exact this
theorem rest (k : KD U D P head u2 ul v1 v2 dl) (hh : head = g * v1 + r) (hr : 4294967296 ≤ r) (hq : U / D ≤ g) : g < 4294967296 ∧ g = U / D := by
  have h1 := kd_word hh hr k.head_lt
  refine ⟨h1, ?_⟩
  have := kd_rest (P := P) (ul := ul) (u2 := u2) hh k.dl_lt k.v2_lt hr h1
  rw [← k.u, ← k.d] at this
  have := (Nat.le_div_iff_mul_le k.dpos).2 this
  omega
theorem one (k : KD U D P head u2 ul v1 v2 dl) (hh : head = g * v1 + r) (hg : g * v2 ≤ r * 4294967296 + u2) (hgB : g < 4294967296) : g ≤ U / D + 1 := by
  have := kd_one (P := P) (dl := dl) (ul := ul) hh k.dl_lt (by have := k.v1_ge; omega) hg hgB
  rw [← k.u, ← k.d] at this
  have h2 : g < U / D + 2 := by
    rcases Nat.lt_or_ge g (U / D + 2) with h | h
    · exact h
    · have h3 := Nat.mul_le_mul_right D h
      have h4 := Nat.lt_div_mul_add k.dpos (a := U)
      have h5 : (U / D + 2) * D = U / D * D + D + D := by rw [Nat.add_mul]; omega
      omega
  omega
end KD

/-- the numbers of which a digit is guessed: x's words from i on, i + n the highest -/
theorem kd_of {x D i m : Nat} (hx : x < D * 4294967296 ^ (i + 1)) (hD : D < 4294967296 ^ (m + 2)) (ht : 2147483648 ≤ dg D (m + 1)) :
    KD (x / 4294967296 ^ i) D (4294967296 ^ m) (dg x (i + m + 2) * 4294967296 + dg x (i + m + 1)) (dg x (i + m)) (x / 4294967296 ^ i % 4294967296 ^ m) (dg D (m + 1)) (dg D m) (D % 4294967296 ^ m) := by
  have hlt : x / 4294967296 ^ i < D * 4294967296 := by
    rw [Nat.div_lt_iff_lt_mul (pow_pos' i), Nat.mul_assoc, Nat.mul_comm 4294967296, ← Nat.pow_succ]; exact hx
  have hU : x / 4294967296 ^ i < 4294967296 ^ (m + 3) := by
    refine Nat.lt_trans hlt ?_
    rw [show m + 3 = m + 2 + 1 from rfl, Nat.pow_succ]
    exact Nat.mul_lt_mul_of_pos_right hD (by omega)
  refine ⟨?_, Nat.mod_lt _ (pow_pos' m), top2 hD, Nat.mod_lt _ (pow_pos' m), dg_lt _ _, dg_lt _ _, ht, dg_lt _ _, hlt⟩
  have := top3 hU
  rw [dg_div, dg_div, dg_div] at this
  exact this

/-- a round of the loop that subtracts a multiple -/
theorem take_round {V V' i j g D X old c b s lo hi nb new : Nat}
    (hV : V + 4294967296 ^ i * (g * (D % 4294967296 ^ j)) = X + 4294967296 ^ (i + j) * (c + b))
    (hV' : V' + 4294967296 ^ (i + j) * old = V + 4294967296 ^ (i + j) * new)
    (hs : s = g * dg D j + c) (hlo : lo = s % 4294967296) (hhi : hi = s / 4294967296)
    (hnew : new + lo + b = old + 4294967296 * nb) :
    V' + 4294967296 ^ i * (g * (D % 4294967296 ^ (j + 1))) = X + 4294967296 ^ (i + (j + 1)) * (hi + nb) := by
  rw [mod_succ]
  have e1 : 4294967296 ^ (i + (j + 1)) * (hi + nb) = 4294967296 ^ (i + j) * (4294967296 * hi) + 4294967296 ^ (i + j) * (4294967296 * nb) := by
    rw [← Nat.add_assoc, Nat.pow_succ, Nat.mul_assoc, Nat.mul_add, Nat.mul_add]
  have e2 : 4294967296 ^ i * (g * (D % 4294967296 ^ j + 4294967296 ^ j * dg D j)) = 4294967296 ^ i * (g * (D % 4294967296 ^ j)) + 4294967296 ^ (i + j) * (g * dg D j) := by
    rw [Nat.mul_add, Nat.mul_add, Nat.pow_add]
    congr 1
    rw [Nat.mul_left_comm g, Nat.mul_assoc]
  have e3 : 4294967296 ^ (i + j) * lo + 4294967296 ^ (i + j) * (4294967296 * hi) = 4294967296 ^ (i + j) * (g * dg D j) + 4294967296 ^ (i + j) * c := by
    rw [← Nat.mul_add, ← Nat.mul_add, ← hs, hlo, hhi, Nat.mod_add_div]
  have e4 : 4294967296 ^ (i + j) * new + 4294967296 ^ (i + j) * lo + 4294967296 ^ (i + j) * b = 4294967296 ^ (i + j) * old + 4294967296 ^ (i + j) * (4294967296 * nb) := by
    rw [← Nat.mul_add, ← Nat.mul_add, ← Nat.mul_add, hnew]
  rw [Nat.mul_add] at hV
  omega

/-- the round of the highest word -/
theorem take_last {V V' X Y p old c b nb new : Nat} (hV : V + Y = X + p * (c + b)) (hV' : V' + p * old = V + p * new) (hnew : new + c + b = old + 4294967296 * nb) :
    V' + Y = X + p * 4294967296 * nb := by
  have e4 : p * new + p * c + p * b = p * old + p * (4294967296 * nb) := by
    rw [← Nat.mul_add, ← Nat.mul_add, ← Nat.mul_add, hnew]
  rw [← Nat.mul_assoc] at e4
  rw [Nat.mul_add] at hV
  omega

/-- a round of the loop that adds back -/
theorem back_round {V V' i j D X old c s new nc : Nat}
    (hV : V + 4294967296 ^ (i + j) * c = X + 4294967296 ^ i * (D % 4294967296 ^ j))
    (hV' : V' + 4294967296 ^ (i + j) * old = V + 4294967296 ^ (i + j) * new)
    (hs : s = old + dg D j + c) (hlo : new = s % 4294967296) (hhi : nc = s / 4294967296) :
    V' + 4294967296 ^ (i + (j + 1)) * nc = X + 4294967296 ^ i * (D % 4294967296 ^ (j + 1)) := by
  rw [mod_succ]
  have e1 : 4294967296 ^ (i + (j + 1)) * nc = 4294967296 ^ (i + j) * (4294967296 * nc) := by rw [← Nat.add_assoc, Nat.pow_succ, Nat.mul_assoc]
  have e2 : 4294967296 ^ i * (D % 4294967296 ^ j + 4294967296 ^ j * dg D j) = 4294967296 ^ i * (D % 4294967296 ^ j) + 4294967296 ^ (i + j) * dg D j := by
    rw [Nat.mul_add, Nat.pow_add, Nat.mul_assoc]
  have e3 : 4294967296 ^ (i + j) * new + 4294967296 ^ (i + j) * (4294967296 * nc) = 4294967296 ^ (i + j) * old + 4294967296 ^ (i + j) * dg D j + 4294967296 ^ (i + j) * c := by
    rw [← Nat.mul_add, ← Nat.mul_add, ← Nat.mul_add, ← hs, hlo, hhi, Nat.mod_add_div]
  omega

theorem val_small {l : List Nat} {k : Nat} (ho : Ok l) (hz : ∀ p, k ≤ p → l.getD p 0 = 0) : val l < 4294967296 ^ k := by
  rw [take_norm (l := l) (n := k) (fun j h _ => hz j h)]
  have h1 := val_lt (ho.take k)
  exact Nat.lt_of_lt_of_le h1 (Nat.pow_le_pow_right (by omega) (by rw [List.length_take]; omega))

theorem words_zero {l : List Nat} {k : Nat} (ho : Ok l) (h : val l < 4294967296 ^ k) (p : Nat) (hp : k ≤ p) : l.getD p 0 = 0 := by
  rw [val_dg ho]
  exact dg_ge (Nat.lt_of_lt_of_le h (Nat.pow_le_pow_right (by omega) hp))

/-- the guess was right -/
theorem take_done {V X D g i : Nat} (hD : 0 < D) (h : V + 4294967296 ^ i * (g * D) = X) (hq : X / 4294967296 ^ i / D ≤ g) : g = X / 4294967296 ^ i / D := by
  have h1 : g * D ≤ X / 4294967296 ^ i := by
    rw [Nat.le_div_iff_mul_le (pow_pos' i), Nat.mul_comm]; omega
  have h2 := (Nat.le_div_iff_mul_le hD).2 h1
  omega

/-- the guess was one too high -/
theorem take_high {V X D g i n : Nat} (h : V + 4294967296 ^ i * (g * D) = X + 4294967296 ^ (i + n + 1)) (hV : V < 4294967296 ^ (i + n + 1)) (hD : 0 < D) (hq : g ≤ X / 4294967296 ^ i / D + 1) :
    g = X / 4294967296 ^ i / D + 1 := by
  have h1 : X < 4294967296 ^ i * (g * D) := by omega
  have h2 : X / 4294967296 ^ i / D < g := by
    rw [Nat.div_lt_iff_lt_mul hD, Nat.div_lt_iff_lt_mul (pow_pos' i), Nat.mul_comm]; exact h1
  omega

/-- adding back ends with the rest -/
theorem back_done {V X D g q i n M c : Nat} (h : V + 4294967296 ^ i * (g * D) = X + 4294967296 ^ (i + n + 1)) (hg : g = q + 1) (hq : q = X / 4294967296 ^ i / D)
    (hM : M + 4294967296 ^ (i + n + 1) * c = V + 4294967296 ^ i * D) (hc : c ≤ 1) (hMl : M < 4294967296 ^ (i + n + 1)) : M + 4294967296 ^ i * (q * D) = X := by
  have e : 4294967296 ^ i * (g * D) = 4294967296 ^ i * (q * D) + 4294967296 ^ i * D := by rw [hg, Nat.succ_mul, Nat.mul_add]
  have hle : 4294967296 ^ i * (q * D) ≤ X := by
    have h1 : q * D ≤ X / 4294967296 ^ i := by rw [hq]; exact Nat.div_mul_le_self _ _
    have := Nat.mul_le_mul_left (4294967296 ^ i) h1
    exact Nat.le_trans this (Nat.mul_div_le _ _)
  rcases (by omega : c = 0 ∨ c = 1) with rfl | rfl
  · omega
  · omega

/-- the numbers fall below the divisor's multiple -/
theorem part_lt {X V D q i : Nat} (h : V + 4294967296 ^ i * (q * D) = X) (hq : q = X / 4294967296 ^ i / D) (hD : 0 < D) : V < D * 4294967296 ^ i := by
  have h1 : X / 4294967296 ^ i < q * D + D := by rw [hq]; exact Nat.lt_div_mul_add hD
  have h2 : X < (q * D + D) * 4294967296 ^ i := by
    rw [← Nat.div_lt_iff_lt_mul (pow_pos' i)]; exact h1
  rw [Nat.add_mul, Nat.mul_comm (q * D)] at h2
  omega

end Go.Proofs.YtmlopkkbgpfdnaaGreatDoor
