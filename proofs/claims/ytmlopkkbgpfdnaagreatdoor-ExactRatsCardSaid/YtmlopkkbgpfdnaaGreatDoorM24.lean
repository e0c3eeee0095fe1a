/- Walks: strings.Cut at a slash; texts of fractions, as mathematics. · Walks: RatPrint of both, RatFloor of the reference. -/
import Derived.Test.YtmlopkkbgpfdnaaGreatDoorM23
import Derived.Test.YtmlopkkbgpfdnaaGreatDoorM12
import Derived.Lib.IndexLaws
import Derived.Test.YtmlopkkbgpfdnaaGreatDoorM3
import Derived.Test.YtmlopkkbgpfdnaaGreatDoorM20
import Derived.Test.YtmlopkkbgpfdnaaGreatDoorM17
namespace Go.Proofs.YtmlopkkbgpfdnaaGreatDoor
open Go.RowKit

/-- what stands before the first slash, and behind it; and whether there is one -/
def topT (l : List UInt8) : List UInt8 := if Lib.indexByte l 47 = -1 then l else l.take (Lib.indexByte l 47).toNat
def botT (l : List UInt8) : List UInt8 := if Lib.indexByte l 47 = -1 then [] else l.drop ((Lib.indexByte l 47).toNat + 1)
def divT (l : List UInt8) : Bool := !decide (Lib.indexByte l 47 = -1)

theorem cut_text2 (l : List UInt8) : l = if divT l then topT l ++ 47 :: botT l else topT l := by
  unfold divT topT botT
  by_cases h : Lib.indexByte l 47 = -1
  · simp [h]
  · have hge := Lib.indexByte_ge l 47
    obtain ⟨i, hi⟩ : ∃ i : Nat, Lib.indexByte l 47 = (i : Int) := ⟨(Lib.indexByte l 47).toNat, by omega⟩
    rw [hi] at h ⊢
    have h2 := (Lib.indexByte_some hi).1
    rw [decide_eq_false h, if_neg h, if_neg h]
    obtain ⟨hlt, hg⟩ := List.getElem?_eq_some_iff.1 h2
    simp only [Bool.not_false, if_true, Int.toNat_natCast]
    rw [← hg, List.getElem_cons_drop, List.take_append_drop]
theorem no_slash {l : List UInt8} (h : divT l = false) : ∀ k : Nat, l[k]? ≠ some 47 := by
  have h1 : Lib.indexByte l 47 = -1 := by
    unfold divT at h
    simpa using h
  exact Lib.indexByte_none h1
theorem top_no_slash (l : List UInt8) : ∀ k : Nat, (topT l)[k]? ≠ some 47 := by
  intro k
  unfold topT
  by_cases h : Lib.indexByte l 47 = -1
  · rw [if_pos h]; exact Lib.indexByte_none h k
  · have hge := Lib.indexByte_ge l 47
    obtain ⟨i, hi⟩ : ∃ i : Nat, Lib.indexByte l 47 = (i : Int) := ⟨(Lib.indexByte l 47).toNat, by omega⟩
    rw [if_neg h, hi, Int.toNat_natCast, List.getElem?_take]
    split
    · rename_i hk
      exact (Lib.indexByte_some hi).2 k hk
    · simp

set_option maxHeartbeats 400000 in
set_option maxRecDepth 100000 in
theorem cut68 (s a b : ByteArray) (f : Bool) (ha : a.data.toList = topT s.data.toList) (hb : b.data.toList = botT s.data.toList) (hf : f = divT s.data.toList) (hsz : s.size ≤ 9223372036854775807) (w : World) :
    Calls Tryz.prog 68 #[.string s, .string ⟨#[47]⟩] w fun e w' => e = .returned (.tuple #[.string a, .string b, .bool f]) ∧ Below w.heap.size w w' := by
  have IX := Lib.hid (Tryz.stringslite_Index_one s 47 w)
  by_cases h : Lib.indexByte s.data.toList 47 = -1
  · have ea : a = s := by
      rw [ba_mk a, ha]; unfold topT; rw [if_pos h, ← ba_mk s]
    have eb : b = ⟨#[]⟩ := by
      rw [ba_mk b, hb]; unfold botT; rw [if_pos h]
    have ef : f = false := by rw [hf]; unfold divT; simp [h]
    rw [h] at IX
    rw [ea, eb, ef]
    clear ha hb hf h ea eb ef
    go_enter Tryz.func68, Tryz.ntmps68
    go_wp2_with fail
    refine IX.out.mono ?_
    rintro e w1 ⟨rfl, rfl⟩
    go_wp2
    exact bodyPost_ret (v := .tuple #[.string s, .string ⟨#[]⟩, .bool false]) (by simp [results, Tryz.results68, go_sem]) rfl ⟨rfl, Below.refl _ _⟩
  · have hge := Lib.indexByte_ge s.data.toList 47
    obtain ⟨i, hi⟩ : ∃ i : Nat, Lib.indexByte s.data.toList 47 = (i : Int) := ⟨(Lib.indexByte s.data.toList 47).toNat, by omega⟩
    obtain ⟨hlt, hg⟩ := List.getElem?_eq_some_iff.1 (Lib.indexByte_some hi).1
    rw [ba_len] at hlt
    have ea : a = s.extract 0 i := by
      rw [ba_mk a, ha, ba_mk (s.extract 0 i), ba_extract]; unfold topT; rw [if_neg h, hi]; simp
    have eb : b = s.extract (i + 1) s.size := by
      rw [ba_mk b, hb, ba_mk (s.extract (i + 1) s.size), ba_extract]; unfold botT; rw [if_neg h, hi]
      rw [List.take_of_length_le (by rw [List.length_drop, ba_len]; exact Nat.le_refl _)]; simp
    have ef : f = true := by rw [hf]; unfold divT; rw [decide_eq_false h]; rfl
    rw [hi] at IX
    subst ef
    have Ea := Lib.hid ea
    have Eb := Lib.hid eb
    clear ha hb hf h hi hg hge ea eb
    go_enter Tryz.func68, Tryz.ntmps68
    go_wp2_with fail
    refine IX.out.mono ?_
    rintro e w1 ⟨rfl, rfl⟩
    have hwr : IntKind.i64.wrap ((i : Int) + 1) = (i : Int) + 1 := by rw [IntKind.wrap_i64]; omega
    obtain ⟨j, hj⟩ : ∃ j : Nat, j = i + 1 := ⟨_, rfl⟩
    have hji : (i : Int) + 1 = (j : Int) := by omega
    rw [hji] at hwr
    have hjl : j ≤ s.size := by omega
    rw [← hj] at Eb
    have Hji := Lib.hid hji
    have Hwr := Lib.hid hwr
    clear hj hji hwr
    have hle : i ≤ s.size := by omega
    go_upto_region 3 with fail
    refine wp_region_noPanic ?_
    refine wp_pool 10 [some 13, some 14, some 15, some 16, some 17, some 18, some 19, some 20, some 21, some 4] [] [] [(fun (v : Value) (_ : World) => v = .string s), (fun (v : Value) (_ : World) => v = .int .i64 (i : Int)), (fun (v : Value) (_ : World) => v = .string a), (fun (v : Value) (_ : World) => v = .string s), (fun (v : Value) (_ : World) => v = .int .i64 (i : Int)), (fun (v : Value) (_ : World) => v = .string ⟨#[47]⟩), (fun (v : Value) (_ : World) => v = .int .i64 (1 : Int)), (fun (v : Value) (_ : World) => v = .int .i64 (j : Int)), (fun (v : Value) (_ : World) => v = .string b), (fun (v : Value) (_ : World) => v = .string a)] [noF, noF, noF, noF, noF, noF, noF, noF, noF, noF] (by kernel_rfl) (by kernel_rfl) (by kernel_rfl) (by kernel_rfl) (by kernel_rfl) (by kernel_rfl) (by kernel_rfl) (by kernel_rfl) (fun _ _ _ _ h => h) ⟨Stays.pure _, Stays.pure _, Stays.pure _, Stays.pure _, Stays.pure _, Stays.pure _, Stays.pure _, Stays.pure _, Stays.pure _, Stays.pure _, True.intro⟩ ?steps ?done
    case steps =>
      simp only [List.take_succ_cons, List.take_zero]
      refine Steps.cons (fun (v : Value) (_ : World) => v = .string s) [] rfl (by kernel_rfl) rfl (by kernel_rfl) (fun y X ex0 hf K hK => ?_) ?_
      · clear hf
        have ex := (Ext.drw (Ext.refl _)).trans ex0
        refine Box.mk ?_
        simp only [fill, Act.put, Nat.reduceAdd, List.setIfInBounds_toArray, List.set_cons_zero, List.set_cons_succ] at hK ⊢
        go_simp
        exact hK.out _ _ rfl (Ext.refl _) (fun b hb => by cases hb)
      refine Steps.cons (fun (v : Value) (_ : World) => v = .int .i64 (i : Int)) [] rfl (by kernel_rfl) rfl (by kernel_rfl) (fun y X ex0 hf K hK => ?_) ?_
      · clear hf
        have ex := (Ext.drw (Ext.refl _)).trans ex0
        refine Box.mk ?_
        simp only [fill, Act.put, Nat.reduceAdd, List.setIfInBounds_toArray, List.set_cons_zero, List.set_cons_succ] at hK ⊢
        go_simp
        exact hK.out _ _ rfl (Ext.refl _) (fun b hb => by cases hb)
      refine Steps.cons (fun (v : Value) (_ : World) => v = .string a) [0, 1] rfl (by kernel_rfl) rfl (by kernel_rfl) (fun y X ex0 hf K hK => ?_) ?_
      · have h0 : ((fun (v : Value) (_ : World) => v = .string s)) (y 0) X := hf.1
        have h1 : ((fun (v : Value) (_ : World) => v = .int .i64 (i : Int))) (y 1) X := hf.2.1
        clear hf
        have ex := (Ext.drw (Ext.refl _)).trans ex0
        refine Box.mk ?_
        simp only [fill, Act.put, Nat.reduceAdd, List.setIfInBounds_toArray, List.set_cons_zero, List.set_cons_succ, h0, h1] at hK ⊢
        go_simp
        exact hK.out _ _ (by rw [Ea.out]) (Ext.refl _) (fun b hb => by cases hb)
      refine Steps.cons (fun (v : Value) (_ : World) => v = .string s) [] rfl (by kernel_rfl) rfl (by kernel_rfl) (fun y X ex0 hf K hK => ?_) ?_
      · clear hf
        have ex := (Ext.drw (Ext.refl _)).trans ex0
        refine Box.mk ?_
        simp only [fill, Act.put, Nat.reduceAdd, List.setIfInBounds_toArray, List.set_cons_zero, List.set_cons_succ] at hK ⊢
        go_simp
        exact hK.out _ _ rfl (Ext.refl _) (fun b hb => by cases hb)
      refine Steps.cons (fun (v : Value) (_ : World) => v = .int .i64 (i : Int)) [] rfl (by kernel_rfl) rfl (by kernel_rfl) (fun y X ex0 hf K hK => ?_) ?_
      · clear hf
        have ex := (Ext.drw (Ext.refl _)).trans ex0
        refine Box.mk ?_
        simp only [fill, Act.put, Nat.reduceAdd, List.setIfInBounds_toArray, List.set_cons_zero, List.set_cons_succ] at hK ⊢
        go_simp
        exact hK.out _ _ rfl (Ext.refl _) (fun b hb => by cases hb)
      refine Steps.cons (fun (v : Value) (_ : World) => v = .string ⟨#[47]⟩) [] rfl (by kernel_rfl) rfl (by kernel_rfl) (fun y X ex0 hf K hK => ?_) ?_
      · clear hf
        have ex := (Ext.drw (Ext.refl _)).trans ex0
        refine Box.mk ?_
        simp only [fill, Act.put, Nat.reduceAdd, List.setIfInBounds_toArray, List.set_cons_zero, List.set_cons_succ] at hK ⊢
        go_simp
        exact hK.out _ _ rfl (Ext.refl _) (fun b hb => by cases hb)
      refine Steps.cons (fun (v : Value) (_ : World) => v = .int .i64 (1 : Int)) [5] rfl (by kernel_rfl) rfl (by kernel_rfl) (fun y X ex0 hf K hK => ?_) ?_
      · have h5 : ((fun (v : Value) (_ : World) => v = .string ⟨#[47]⟩)) (y 5) X := hf.1
        clear hf
        have ex := (Ext.drw (Ext.refl _)).trans ex0
        refine Box.mk ?_
        simp only [fill, Act.put, Nat.reduceAdd, List.setIfInBounds_toArray, List.set_cons_zero, List.set_cons_succ, h5] at hK ⊢
        go_simp
        exact hK.out _ _ rfl (Ext.refl _) (fun b hb => by cases hb)
      refine Steps.cons (fun (v : Value) (_ : World) => v = .int .i64 (j : Int)) [4, 6] rfl (by kernel_rfl) rfl (by kernel_rfl) (fun y X ex0 hf K hK => ?_) ?_
      · have h4 : ((fun (v : Value) (_ : World) => v = .int .i64 (i : Int))) (y 4) X := hf.1
        have h6 : ((fun (v : Value) (_ : World) => v = .int .i64 (1 : Int))) (y 6) X := hf.2.1
        clear hf
        have ex := (Ext.drw (Ext.refl _)).trans ex0
        refine Box.mk ?_
        simp only [fill, Act.put, Nat.reduceAdd, List.setIfInBounds_toArray, List.set_cons_zero, List.set_cons_succ, h4, h6] at hK ⊢
        go_simp
        exact hK.out _ _ (by rw [Hji.out, Hwr.out]) (Ext.refl _) (fun b hb => by cases hb)
      refine Steps.cons (fun (v : Value) (_ : World) => v = .string b) [3, 7] rfl (by kernel_rfl) rfl (by kernel_rfl) (fun y X ex0 hf K hK => ?_) ?_
      · have h3 : ((fun (v : Value) (_ : World) => v = .string s)) (y 3) X := hf.1
        have h7 : ((fun (v : Value) (_ : World) => v = .int .i64 (j : Int))) (y 7) X := hf.2.1
        clear hf
        have ex := (Ext.drw (Ext.refl _)).trans ex0
        refine Box.mk ?_
        simp only [fill, Act.put, Nat.reduceAdd, List.setIfInBounds_toArray, List.set_cons_zero, List.set_cons_succ, h3, h7] at hK ⊢
        go_simp
        exact hK.out _ _ (by rw [Eb.out]) (Ext.refl _) (fun b hb => by cases hb)
      refine Steps.cons (fun (v : Value) (_ : World) => v = .string a) [2, 0, 1] rfl (by kernel_rfl) rfl (by kernel_rfl) (fun y X ex0 hf K hK => ?_) ?_
      · have h2 : ((fun (v : Value) (_ : World) => v = .string a)) (y 2) X := hf.1
        have h0 : ((fun (v : Value) (_ : World) => v = .string s)) (y 0) X := hf.2.1
        have h1 : ((fun (v : Value) (_ : World) => v = .int .i64 (i : Int))) (y 1) X := hf.2.2.1
        clear hf
        have ex := (Ext.drw (Ext.refl _)).trans ex0
        refine Box.mk ?_
        simp only [fill, Act.put, Nat.reduceAdd, List.setIfInBounds_toArray, List.set_cons_zero, List.set_cons_succ, h2, h0, h1] at hK ⊢
        go_simp
        exact hK.out _ _ rfl (Ext.refl _) (fun b hb => by cases hb)
      exact Steps.nil
    case done =>
      intro y X ex hf hlt hsep
      have h0 : ((fun (v : Value) (_ : World) => v = .string s)) (y 0) X := hf.1
      have h1 : ((fun (v : Value) (_ : World) => v = .int .i64 (i : Int))) (y 1) X := hf.2.1
      have h2 : ((fun (v : Value) (_ : World) => v = .string a)) (y 2) X := hf.2.2.1
      have h3 : ((fun (v : Value) (_ : World) => v = .string s)) (y 3) X := hf.2.2.2.1
      have h4 : ((fun (v : Value) (_ : World) => v = .int .i64 (i : Int))) (y 4) X := hf.2.2.2.2.1
      have h5 : ((fun (v : Value) (_ : World) => v = .string ⟨#[47]⟩)) (y 5) X := hf.2.2.2.2.2.1
      have h6 : ((fun (v : Value) (_ : World) => v = .int .i64 (1 : Int))) (y 6) X := hf.2.2.2.2.2.2.1
      have h7 : ((fun (v : Value) (_ : World) => v = .int .i64 (j : Int))) (y 7) X := hf.2.2.2.2.2.2.2.1
      have h8 : ((fun (v : Value) (_ : World) => v = .string b)) (y 8) X := hf.2.2.2.2.2.2.2.2.1
      have h9 : ((fun (v : Value) (_ : World) => v = .string a)) (y 9) X := hf.2.2.2.2.2.2.2.2.2.1
      clear hf
      clear hsep hlt
      refine Box.mk ?_
      simp only [List.drop_succ_cons, List.drop_zero, fill, Act.put, Nat.reduceAdd, List.setIfInBounds_toArray, List.set_cons_zero, List.set_cons_succ, h0, h1, h2, h3, h4, h5, h6, h7, h8, h9]
      clear h0 h1 h2 h3 h4 h5 h6 h7 h8 h9
      have EX := Lib.hid ex; clear ex
      go_wp2_with fail
      refine NoPanic.normal ?_
      go_wp2
      exact bodyPost_ret (v := .tuple #[.string a, .string b, .bool true]) (by simp [results, Tryz.results68, go_sem]) rfl ⟨rfl, EX.out⟩

theorem cut43 (s a b : ByteArray) (f : Bool) (ha : a.data.toList = topT s.data.toList) (hb : b.data.toList = botT s.data.toList) (hf : f = divT s.data.toList) (hsz : s.size ≤ 9223372036854775807) (w : World) :
    Calls Tryz.prog 43 #[.string s, .string ⟨#[47]⟩] w fun e w' => e = .returned (.tuple #[.string a, .string b, .bool f]) ∧ Below w.heap.size w w' := by
  have C := Lib.hid (cut68 s a b f ha hb hf hsz w)
  clear ha hb hf hsz
  go_enter Tryz.func43, Tryz.ntmps43
  go_wp2_with fail
  refine C.out.mono ?_
  rintro e w1 ⟨rfl, hb1⟩
  go_wp2
  exact bodyPost_ret (v := .tuple #[.string a, .string b, .bool f]) (by simp [results, Tryz.results43, go_sem]) rfl ⟨rfl, hb1⟩
end Go.Proofs.YtmlopkkbgpfdnaaGreatDoor
namespace Go.Proofs.YtmlopkkbgpfdnaaGreatDoor
open Go.RowKit

/-- the text of a fraction -/
def pT (x y : Int) : List UInt8 := if y = 1 then txt x else txt x ++ (47 :: txt y)
theorem txt_len (z : Int) (h : (dig z.natAbs).length ≤ 256) : (txt z).length ≤ 2600 := by
  have h1 := dec_len_three (a := 85) (lt_of_dig_len h) (by omega)
  unfold txt
  split
  · rw [List.length_cons]; omega
  · omega
/-- a string that is the text of a number -/
theorem zText_s {z : Int} {b : Bool} {A : Option Addr} {n c : Nat} {w : World} (S : ByteArray) (hS : S = ⟨(txt z).toArray⟩) (hz : ZV w (.agg #[.bool b, .slice A n c]) z) (hl : (dig z.natAbs).length ≤ 256) (ht : Tab w) :
    Calls Tryz.prog 37 #[.agg #[.bool b, .slice A n c]] w fun e w' => e = .returned (.string S) ∧ Below w.heap.size w w' := by
  rw [hS]
  exact zText_any z _ w hz (by omega) ht
theorem digits_s {z : Int} {b : Bool} {A : Option Addr} {n c : Nat} {w : World} (S : ByteArray) (hS : S = ⟨(txt z).toArray⟩) (hz : ZV w (.agg #[.bool b, .slice A n c]) z) (hl : (dig z.natAbs).length ≤ 256) (ht : Tab w) :
    Calls Tryz.prog 38 #[.agg #[.bool b, .slice A n c]] w fun e w' => e = .returned (.string S) ∧ Below w.heap.size w w' := by
  rw [hS]
  exact digits_any z _ w hz (by omega) ht

set_option maxHeartbeats 400000 in
set_option maxRecDepth 100000 in
theorem ratPrint_no (p q : Bool) (A A' : Option Addr) (n c n' c' : Nat) (l l' : List Nat) (w : World) (hx : Wd w (.slice A n c) l) (hy : Wd w (.slice A' n' c') l') (hno : vldR p q l l' = false) : Calls Tryz.prog 11 #[.agg #[.bool p, .slice A n c, .bool q, .slice A' n' c']] w fun e w' => e = .returned (.tuple #[.string ⟨#[]⟩, .int .i64 2]) ∧ Below w.heap.size w w' := by
  obtain ⟨W0, hW0⟩ : ∃ W0, W0 = w.alloc (Obj.cells #[.bool p, .slice A n c, .bool q, .slice A' n' c'] 26) := ⟨_, rfl⟩
  have e0 : Ext w W0 := by rw [hW0]; exact (Ext.refl w).alc _
  have s0 : W0.heap.size = w.heap.size + 1 := by rw [hW0]; simp
  have h1 : RW W0 w.heap.size p q A n c A' n' c' l l' := by rw [hW0]; exact RW.new 26 hx hy
  obtain ⟨W1, hW1⟩ : ∃ W1, W1 = W0.alloc (Obj.cells #[.bool p, .slice A n c, .bool q, .slice A' n' c'] 26) := ⟨_, rfl⟩
  have e1 : Ext W0 W1 := by rw [hW1]; exact (Ext.refl _).alc _
  have hs : W1.heap[w.heap.size + 1]? = some (.cells #[.bool p, .slice A n c, .bool q, .slice A' n' c'] 26 (0, 0)) := by
    have := heap_alloc_new W0 (Obj.cells #[.bool p, .slice A n c, .bool q, .slice A' n' c'] 26)
    rw [s0] at this
    rw [hW1]; exact this
  have AV := Lib.hid (allValidRats_one p q A A' n c n' c' l l' W1 _ (h1.ext e1).w1 (h1.ext e1).w2 hs)
  have HWA := Lib.hid hW1
  have H1 := Lib.hid (h1.ext e1); have E1 := Lib.hid (e0.trans e1); have HW0 := Lib.hid hW0
  have z1 : w.heap.size + 1 ≤ W1.heap.size := by have := e1.size; omega
  rw [hno] at AV
  clear h1 e0 e1 s0 hs hW0 hW1 hx hy
  go_enter Tryz.func11, Tryz.ntmps11
  go_wp2_with fail
  rw [← HW0.out, ← HWA.out]
  refine AV.out.mono ?_
  rintro e W2 ⟨rfl, x2⟩
  replace x2 : Ext W1 W2 := x2
  clear AV HW0 HWA
  go_wp2
  go_ret2
  exact ⟨rfl, Ext.below (E1.out.trans x2)⟩
set_option maxHeartbeats 400000 in
set_option maxRecDepth 100000 in
theorem ratPrint_one (p q : Bool) (A A' : Option Addr) (n c n' c' : Nat) (l l' : List Nat) (w : World) (hx : Wd w (.slice A n c) l) (hy : Wd w (.slice A' n' c') l') (hp : vldR p q l l' = true) (h1' : numOf q l' = 1) (htab : Tab w) : Calls Tryz.prog 11 #[.agg #[.bool p, .slice A n c, .bool q, .slice A' n' c']] w fun e w' => e = .returned (.tuple #[.string ⟨(txt (numOf p l)).toArray⟩, .int .i64 0]) ∧ Below w.heap.size w w' := by
  obtain ⟨W0, hW0⟩ : ∃ W0, W0 = w.alloc (Obj.cells #[.bool p, .slice A n c, .bool q, .slice A' n' c'] 26) := ⟨_, rfl⟩
  have e0 : Ext w W0 := by rw [hW0]; exact (Ext.refl w).alc _
  have s0 : W0.heap.size = w.heap.size + 1 := by rw [hW0]; simp
  have h1 : RW W0 w.heap.size p q A n c A' n' c' l l' := by rw [hW0]; exact RW.new 26 hx hy
  obtain ⟨W1, hW1⟩ : ∃ W1, W1 = W0.alloc (Obj.cells #[.bool p, .slice A n c, .bool q, .slice A' n' c'] 26) := ⟨_, rfl⟩
  have e1 : Ext W0 W1 := by rw [hW1]; exact (Ext.refl _).alc _
  have hs : W1.heap[w.heap.size + 1]? = some (.cells #[.bool p, .slice A n c, .bool q, .slice A' n' c'] 26 (0, 0)) := by
    have := heap_alloc_new W0 (Obj.cells #[.bool p, .slice A n c, .bool q, .slice A' n' c'] 26)
    rw [s0] at this
    rw [hW1]; exact this
  have AV := Lib.hid (allValidRats_one p q A A' n c n' c' l l' W1 _ (h1.ext e1).w1 (h1.ext e1).w2 hs)
  have HWA := Lib.hid hW1
  have H1 := Lib.hid (h1.ext e1); have E1 := Lib.hid (e0.trans e1); have HW0 := Lib.hid hW0
  have z1 : w.heap.size + 1 ≤ W1.heap.size := by have := e1.size; omega
  obtain ⟨hv1, hv2, hv3, hv4⟩ := vldR_parts hp
  have hf := h1.hf hv1 hv2
  obtain ⟨vx, hvx⟩ : ∃ z, z = numOf p l := ⟨_, rfl⟩
  obtain ⟨vy, hvy⟩ : ∃ z, z = numOf q l' := ⟨_, rfl⟩
  have lx : (dig vx.natAbs).length ≤ 256 := by rw [hvx, vld_dig hx.ok hv1]; exact vld_len hv1
  have ly : (dig vy.natAbs).length ≤ 256 := by rw [hvy, vld_dig hy.ok hv2]; exact vld_len hv2
  rw [← hvx, ← hvy] at hf
  try rw [← hvx]
  try rw [← hvy]
  have LL := Lib.hid (And.intro lx ly)
  obtain ⟨S1, hS1⟩ : ∃ S : ByteArray, S = ⟨(txt vx).toArray⟩ := ⟨_, rfl⟩
  obtain ⟨S3, hS3⟩ : ∃ S : ByteArray, S = ⟨(txt vy).toArray⟩ := ⟨_, rfl⟩
  have l1 : S1.size ≤ 2600 := by rw [hS1]; exact txt_len vx lx
  have l3 : S3.size ≤ 2600 := by rw [hS3]; exact txt_len vy ly
  have hcat : S1 ++ ⟨#[47]⟩ ++ S3 = ⟨(txt vx ++ (47 :: txt vy)).toArray⟩ := by
    rw [hS1, hS3]
    rw [show (⟨#[47]⟩ : ByteArray) = ⟨[47].toArray⟩ from rfl, str_append, str_append, List.append_assoc]; rfl
  have HLS := Lib.hid (And.intro l1 l3)
  have HS1 := Lib.hid hS1; have HS3 := Lib.hid hS3; have HC := Lib.hid hcat
  have HT := Lib.hid htab
  have HO : Hid (decide (vy = 1) = true) := Lib.hid (decide_eq_true (by rw [hvy]; exact h1'))
  clear h1'
  rw [hp] at AV
  have F1 := Lib.hid (hf.ext e1)
  clear hv1 hv2 hv3 hv4 hvx hvy lx ly hS1 hS3 hcat htab hp hf l1 l3
  clear h1 e0 e1 s0 hs hW0 hW1 hx hy
  go_enter Tryz.func11, Tryz.ntmps11
  go_wp2_with fail
  rw [← HW0.out, ← HWA.out]
  refine AV.out.mono ?_
  rintro e W2 ⟨rfl, x2⟩
  replace x2 : Ext W1 W2 := x2
  clear AV HW0 HWA
  have F2 := Lib.hid (F1.out.ext x2); have E2 := Lib.hid (E1.out.trans x2)
  clear H1 F1 E1
  obtain ⟨⟨b9, A9, n9, c9, j0, j1, jz⟩, ⟨b8, A8, n8, c8, i0, i1, iz⟩⟩ := F2.out
  have FO := Lib.hid (fractionOf_any vx vy _ _ (fv_mk jz iz))
  have z2 := x2.size
  clear jz iz x2
  go_wp2_with fail
  refine FO.out.mono ?_
  rintro e W3 ⟨b, B, m, d, b', B', m', d', rfl, y1, y2, x3⟩
  replace x3 : Ext W2 W3 := x3
  obtain ⟨W4, hW4⟩ : ∃ W4, W4 = W3.alloc (Obj.cells #[.bool b, .slice B m d, .bool b', .slice B' m' d'] 49) := ⟨_, rfl⟩
  have x4 : Ext W3 W4 := by rw [hW4]; exact (Ext.refl _).alc _
  have G4 : HF W4 W3.heap.size vx vy := by rw [hW4]; exact HF.new W3 b B m d b' B' m' d' 49 y1 y2
  have HW4 := Lib.hid hW4
  have E4 := Lib.hid ((E2.out.trans x3).trans x4)
  have HG4 := Lib.hid G4
  have z4 := G4.lt
  have k0 : W4.cell? ⟨W3.heap.size, 0, none⟩ = some (.bool b) := by rw [hW4, World.cell?_alloc_new]; rfl
  have k1 : W4.cell? ⟨W3.heap.size, 1, none⟩ = some (.slice B m d) := by rw [hW4, World.cell?_alloc_new]; rfl
  have kz := y1.ext x4
  have ky := y2.ext x4
  have IO := Lib.hid (isOne_any vy _ _ ky)
  have HKX := Lib.hid kz; have HKY := Lib.hid ky
  clear FO j0 j1 i0 i1 F2 E2 y1 y2 x3 x4 kz ky hW4 z2
  rw [HO.out] at IO
  go_wp2_with fail
  rw [← HW4.out]
  refine IO.out.mono ?_
  rintro e W5 ⟨rfl, x5⟩
  replace x5 : Ext W4 W5 := x5
  have HT5 := Lib.hid (tab_below HT.out (Ext.below (E4.out.trans x5)))
  have HG5 := Lib.hid (HG4.out.ext x5)
  have E5 := Lib.hid (E4.out.trans x5)
  have z5 := x5.size
  clear HW4 IO
  have k0 := keepAt x5 z4 k0; have k1 := keepAt x5 z4 k1
  have TX := Lib.hid (zText_s S1 HS1.out (HKX.out.ext x5) LL.out.1 HT5.out)
  clear x5
  go_wp2_with fail
  refine TX.out.mono ?_
  rintro e W6 ⟨rfl, hb6⟩
  go_wp2
  go_ret2
  exact ⟨by rw [HS1.out]; rfl, (Ext.below E5.out).trans (hb6.mono (Ext.below E5.out).size)⟩
set_option maxHeartbeats 400000 in
set_option maxRecDepth 100000 in
theorem ratPrint_two (p q : Bool) (A A' : Option Addr) (n c n' c' : Nat) (l l' : List Nat) (w : World) (hx : Wd w (.slice A n c) l) (hy : Wd w (.slice A' n' c') l') (hp : vldR p q l l' = true) (h1' : numOf q l' ≠ 1) (htab : Tab w) : Calls Tryz.prog 11 #[.agg #[.bool p, .slice A n c, .bool q, .slice A' n' c']] w fun e w' => e = .returned (.tuple #[.string ⟨(txt (numOf p l) ++ (47 :: txt (numOf q l'))).toArray⟩, .int .i64 0]) ∧ Below w.heap.size w w' := by
  obtain ⟨W0, hW0⟩ : ∃ W0, W0 = w.alloc (Obj.cells #[.bool p, .slice A n c, .bool q, .slice A' n' c'] 26) := ⟨_, rfl⟩
  have e0 : Ext w W0 := by rw [hW0]; exact (Ext.refl w).alc _
  have s0 : W0.heap.size = w.heap.size + 1 := by rw [hW0]; simp
  have h1 : RW W0 w.heap.size p q A n c A' n' c' l l' := by rw [hW0]; exact RW.new 26 hx hy
  obtain ⟨W1, hW1⟩ : ∃ W1, W1 = W0.alloc (Obj.cells #[.bool p, .slice A n c, .bool q, .slice A' n' c'] 26) := ⟨_, rfl⟩
  have e1 : Ext W0 W1 := by rw [hW1]; exact (Ext.refl _).alc _
  have hs : W1.heap[w.heap.size + 1]? = some (.cells #[.bool p, .slice A n c, .bool q, .slice A' n' c'] 26 (0, 0)) := by
    have := heap_alloc_new W0 (Obj.cells #[.bool p, .slice A n c, .bool q, .slice A' n' c'] 26)
    rw [s0] at this
    rw [hW1]; exact this
  have AV := Lib.hid (allValidRats_one p q A A' n c n' c' l l' W1 _ (h1.ext e1).w1 (h1.ext e1).w2 hs)
  have HWA := Lib.hid hW1
  have H1 := Lib.hid (h1.ext e1); have E1 := Lib.hid (e0.trans e1); have HW0 := Lib.hid hW0
  have z1 : w.heap.size + 1 ≤ W1.heap.size := by have := e1.size; omega
  obtain ⟨hv1, hv2, hv3, hv4⟩ := vldR_parts hp
  have hf := h1.hf hv1 hv2
  obtain ⟨vx, hvx⟩ : ∃ z, z = numOf p l := ⟨_, rfl⟩
  obtain ⟨vy, hvy⟩ : ∃ z, z = numOf q l' := ⟨_, rfl⟩
  have lx : (dig vx.natAbs).length ≤ 256 := by rw [hvx, vld_dig hx.ok hv1]; exact vld_len hv1
  have ly : (dig vy.natAbs).length ≤ 256 := by rw [hvy, vld_dig hy.ok hv2]; exact vld_len hv2
  rw [← hvx, ← hvy] at hf
  try rw [← hvx]
  try rw [← hvy]
  have LL := Lib.hid (And.intro lx ly)
  obtain ⟨S1, hS1⟩ : ∃ S : ByteArray, S = ⟨(txt vx).toArray⟩ := ⟨_, rfl⟩
  obtain ⟨S3, hS3⟩ : ∃ S : ByteArray, S = ⟨(txt vy).toArray⟩ := ⟨_, rfl⟩
  have l1 : S1.size ≤ 2600 := by rw [hS1]; exact txt_len vx lx
  have l3 : S3.size ≤ 2600 := by rw [hS3]; exact txt_len vy ly
  have hcat : S1 ++ ⟨#[47]⟩ ++ S3 = ⟨(txt vx ++ (47 :: txt vy)).toArray⟩ := by
    rw [hS1, hS3]
    rw [show (⟨#[47]⟩ : ByteArray) = ⟨[47].toArray⟩ from rfl, str_append, str_append, List.append_assoc]; rfl
  have HLS := Lib.hid (And.intro l1 l3)
  have HS1 := Lib.hid hS1; have HS3 := Lib.hid hS3; have HC := Lib.hid hcat
  have HT := Lib.hid htab
  have HO : Hid (decide (vy = 1) = false) := Lib.hid (decide_eq_false (by rw [hvy]; exact h1'))
  clear h1'
  rw [hp] at AV
  have F1 := Lib.hid (hf.ext e1)
  clear hv1 hv2 hv3 hv4 hvx hvy lx ly hS1 hS3 hcat htab hp hf l1 l3
  clear h1 e0 e1 s0 hs hW0 hW1 hx hy
  go_enter Tryz.func11, Tryz.ntmps11
  go_wp2_with fail
  rw [← HW0.out, ← HWA.out]
  refine AV.out.mono ?_
  rintro e W2 ⟨rfl, x2⟩
  replace x2 : Ext W1 W2 := x2
  clear AV HW0 HWA
  have F2 := Lib.hid (F1.out.ext x2); have E2 := Lib.hid (E1.out.trans x2)
  clear H1 F1 E1
  obtain ⟨⟨b9, A9, n9, c9, j0, j1, jz⟩, ⟨b8, A8, n8, c8, i0, i1, iz⟩⟩ := F2.out
  have FO := Lib.hid (fractionOf_any vx vy _ _ (fv_mk jz iz))
  have z2 := x2.size
  clear jz iz x2
  go_wp2_with fail
  refine FO.out.mono ?_
  rintro e W3 ⟨b, B, m, d, b', B', m', d', rfl, y1, y2, x3⟩
  replace x3 : Ext W2 W3 := x3
  obtain ⟨W4, hW4⟩ : ∃ W4, W4 = W3.alloc (Obj.cells #[.bool b, .slice B m d, .bool b', .slice B' m' d'] 49) := ⟨_, rfl⟩
  have x4 : Ext W3 W4 := by rw [hW4]; exact (Ext.refl _).alc _
  have G4 : HF W4 W3.heap.size vx vy := by rw [hW4]; exact HF.new W3 b B m d b' B' m' d' 49 y1 y2
  have HW4 := Lib.hid hW4
  have E4 := Lib.hid ((E2.out.trans x3).trans x4)
  have HG4 := Lib.hid G4
  have z4 := G4.lt
  have k0 : W4.cell? ⟨W3.heap.size, 0, none⟩ = some (.bool b) := by rw [hW4, World.cell?_alloc_new]; rfl
  have k1 : W4.cell? ⟨W3.heap.size, 1, none⟩ = some (.slice B m d) := by rw [hW4, World.cell?_alloc_new]; rfl
  have kz := y1.ext x4
  have ky := y2.ext x4
  have IO := Lib.hid (isOne_any vy _ _ ky)
  have HKX := Lib.hid kz; have HKY := Lib.hid ky
  clear FO j0 j1 i0 i1 F2 E2 y1 y2 x3 x4 kz ky hW4 z2
  rw [HO.out] at IO
  go_wp2_with fail
  rw [← HW4.out]
  refine IO.out.mono ?_
  rintro e W5 ⟨rfl, x5⟩
  replace x5 : Ext W4 W5 := x5
  have HT5 := Lib.hid (tab_below HT.out (Ext.below (E4.out.trans x5)))
  have HG5 := Lib.hid (HG4.out.ext x5)
  have E5 := Lib.hid (E4.out.trans x5)
  have zz5 := x5.size
  clear HW4 IO
  clear x5 k0 k1
  go_upto_region 6 with fail
  refine wp_region_noPanic ?_
  refine wp_pool 8 [some 17, some 18, some 19, some 20, some 21, some 22, some 23, some 24] [] [] [(fun (v : Value) (_ : World) => v = .pointer (some ⟨W3.heap.size, 0, none⟩)), (fun (v : Value) (X : World) => ∃ b A n c, v = .agg #[.bool b, .slice A n c] ∧ ZV X (.agg #[.bool b, .slice A n c]) (vx)), (fun (v : Value) (_ : World) => v = .string S1), (fun (v : Value) (_ : World) => v = .string (S1 ++ ⟨#[47]⟩)), (fun (v : Value) (_ : World) => v = .pointer (some ⟨W3.heap.size, 2, none⟩)), (fun (v : Value) (X : World) => ∃ b A n c, v = .agg #[.bool b, .slice A n c] ∧ ZV X (.agg #[.bool b, .slice A n c]) (vy)), (fun (v : Value) (_ : World) => v = .string S3), (fun (v : Value) (_ : World) => v = .string (S1 ++ ⟨#[47]⟩ ++ S3))] [noF, noF, noF, noF, noF, noF, noF, noF] (by kernel_rfl) (by kernel_rfl) (by kernel_rfl) (by kernel_rfl) (by kernel_rfl) (by kernel_rfl) (by kernel_rfl) (by kernel_rfl) (fun _ _ _ _ h => h) ⟨Stays.pure _, (fun _ _ _ e ⟨b, A, n, c, h1, h2⟩ => ⟨b, A, n, c, h1, h2.ext e⟩), Stays.pure _, Stays.pure _, Stays.pure _, (fun _ _ _ e ⟨b, A, n, c, h1, h2⟩ => ⟨b, A, n, c, h1, h2.ext e⟩), Stays.pure _, Stays.pure _, True.intro⟩ ?steps ?done
  case steps =>
    simp only [List.take_succ_cons, List.take_zero]
    refine Steps.cons (fun (v : Value) (_ : World) => v = .pointer (some ⟨W3.heap.size, 0, none⟩)) [] rfl (by kernel_rfl) rfl (by kernel_rfl) (fun y X ex0 hf K hK => ?_) ?_
    · clear hf
      have ex := (Ext.drw (Ext.refl _)).trans ex0
      refine Box.mk ?_
      simp only [fill, Act.put, Nat.reduceAdd, List.setIfInBounds_toArray, List.set_cons_zero, List.set_cons_succ] at hK ⊢
      go_simp
      exact hK.out _ _ rfl (Ext.refl _) (fun b hb => by cases hb)
    refine Steps.cons (fun (v : Value) (X : World) => ∃ b A n c, v = .agg #[.bool b, .slice A n c] ∧ ZV X (.agg #[.bool b, .slice A n c]) (vx)) [0] rfl (by kernel_rfl) rfl (by kernel_rfl) (fun y X ex0 hf K hK => ?_) ?_
    · have h0 : ((fun (v : Value) (_ : World) => v = .pointer (some ⟨W3.heap.size, 0, none⟩))) (y 0) X := hf.1
      clear hf
      have ex := (Ext.drw (Ext.refl _)).trans ex0
      refine Box.mk ?_
      simp only [fill, Act.put, Nat.reduceAdd, List.setIfInBounds_toArray, List.set_cons_zero, List.set_cons_succ, h0] at hK ⊢
      obtain ⟨bl, Al, nl, cl, k0, k1, kz⟩ := ((HG5.out.ext ex).1)
      go_simp
      exact hK.out _ _ ⟨_, _, _, _, rfl, kz⟩ (Ext.refl _) (fun b hb => by cases hb)
    refine Steps.cons (fun (v : Value) (_ : World) => v = .string S1) [1] rfl (by kernel_rfl) rfl (by kernel_rfl) (fun y X ex0 hf K hK => ?_) ?_
    · obtain ⟨b1, A1, n1, c1, h1, z1⟩ : ((fun (v : Value) (X : World) => ∃ b A n c, v = .agg #[.bool b, .slice A n c] ∧ ZV X (.agg #[.bool b, .slice A n c]) (vx))) (y 1) X := hf.1
      clear hf
      have ex := (Ext.drw (Ext.refl _)).trans ex0
      refine Box.mk ?_
      simp only [fill, Act.put, Nat.reduceAdd, List.setIfInBounds_toArray, List.set_cons_zero, List.set_cons_succ, h1] at hK ⊢
      go_simp
      refine (zText_s S1 HS1.out z1 LL.out.1 (tab_below HT5.out ex)).mono ?_
      rintro e V ⟨rfl, hb⟩
      try go_wp2_with fail
      exact hK.out _ _ rfl hb (fun b hb => by cases hb)
    refine Steps.cons (fun (v : Value) (_ : World) => v = .string (S1 ++ ⟨#[47]⟩)) [2] rfl (by kernel_rfl) rfl (by kernel_rfl) (fun y X ex0 hf K hK => ?_) ?_
    · have h2 : ((fun (v : Value) (_ : World) => v = .string S1)) (y 2) X := hf.1
      clear hf
      have ex := (Ext.drw (Ext.refl _)).trans ex0
      refine Box.mk ?_
      simp only [fill, Act.put, Nat.reduceAdd, List.setIfInBounds_toArray, List.set_cons_zero, List.set_cons_succ, h2] at hK ⊢
      have l1 : ¬ (9223372036854775807 < S1.size + 1) := by have := HLS.out.1; omega
      go_simp
      exact hK.out _ _ rfl (Ext.refl _) (fun b hb => by cases hb)
    refine Steps.cons (fun (v : Value) (_ : World) => v = .pointer (some ⟨W3.heap.size, 2, none⟩)) [] rfl (by kernel_rfl) rfl (by kernel_rfl) (fun y X ex0 hf K hK => ?_) ?_
    · clear hf
      have ex := (Ext.drw (Ext.refl _)).trans ex0
      refine Box.mk ?_
      simp only [fill, Act.put, Nat.reduceAdd, List.setIfInBounds_toArray, List.set_cons_zero, List.set_cons_succ] at hK ⊢
      go_simp
      exact hK.out _ _ rfl (Ext.refl _) (fun b hb => by cases hb)
    refine Steps.cons (fun (v : Value) (X : World) => ∃ b A n c, v = .agg #[.bool b, .slice A n c] ∧ ZV X (.agg #[.bool b, .slice A n c]) (vy)) [4] rfl (by kernel_rfl) rfl (by kernel_rfl) (fun y X ex0 hf K hK => ?_) ?_
    · have h4 : ((fun (v : Value) (_ : World) => v = .pointer (some ⟨W3.heap.size, 2, none⟩))) (y 4) X := hf.1
      clear hf
      have ex := (Ext.drw (Ext.refl _)).trans ex0
      refine Box.mk ?_
      simp only [fill, Act.put, Nat.reduceAdd, List.setIfInBounds_toArray, List.set_cons_zero, List.set_cons_succ, h4] at hK ⊢
      obtain ⟨bl, Al, nl, cl, k0, k1, kz⟩ := ((HG5.out.ext ex).2)
      go_simp
      exact hK.out _ _ ⟨_, _, _, _, rfl, kz⟩ (Ext.refl _) (fun b hb => by cases hb)
    refine Steps.cons (fun (v : Value) (_ : World) => v = .string S3) [5, 2] rfl (by kernel_rfl) rfl (by kernel_rfl) (fun y X ex0 hf K hK => ?_) ?_
    · obtain ⟨b5, A5, n5, c5, h5, z5⟩ : ((fun (v : Value) (X : World) => ∃ b A n c, v = .agg #[.bool b, .slice A n c] ∧ ZV X (.agg #[.bool b, .slice A n c]) (vy))) (y 5) X := hf.1
      have h2 : ((fun (v : Value) (_ : World) => v = .string S1)) (y 2) X := hf.2.1
      clear hf
      have ex := (Ext.drw (Ext.refl _)).trans ex0
      refine Box.mk ?_
      simp only [fill, Act.put, Nat.reduceAdd, List.setIfInBounds_toArray, List.set_cons_zero, List.set_cons_succ, h5, h2] at hK ⊢
      go_simp
      refine (zText_s S3 HS3.out z5 LL.out.2 (tab_below HT5.out ex)).mono ?_
      rintro e V ⟨rfl, hb⟩
      try go_wp2_with fail
      exact hK.out _ _ rfl hb (fun b hb => by cases hb)
    refine Steps.cons (fun (v : Value) (_ : World) => v = .string (S1 ++ ⟨#[47]⟩ ++ S3)) [3, 6] rfl (by kernel_rfl) rfl (by kernel_rfl) (fun y X ex0 hf K hK => ?_) ?_
    · have h3 : ((fun (v : Value) (_ : World) => v = .string (S1 ++ ⟨#[47]⟩))) (y 3) X := hf.1
      have h6 : ((fun (v : Value) (_ : World) => v = .string S3)) (y 6) X := hf.2.1
      clear hf
      have ex := (Ext.drw (Ext.refl _)).trans ex0
      refine Box.mk ?_
      simp only [fill, Act.put, Nat.reduceAdd, List.setIfInBounds_toArray, List.set_cons_zero, List.set_cons_succ, h3, h6] at hK ⊢
      have l1 : ¬ (9223372036854775807 < S1.size + 1 + S3.size) := by have := HLS.out; omega
      go_simp
      exact hK.out _ _ rfl (Ext.refl _) (fun b hb => by cases hb)
    exact Steps.nil
  case done =>
    intro y X ex hf hlt hsep
    have h0 : ((fun (v : Value) (_ : World) => v = .pointer (some ⟨W3.heap.size, 0, none⟩))) (y 0) X := hf.1
    obtain ⟨b1, A1, n1, c1, h1, z1⟩ : ((fun (v : Value) (X : World) => ∃ b A n c, v = .agg #[.bool b, .slice A n c] ∧ ZV X (.agg #[.bool b, .slice A n c]) (vx))) (y 1) X := hf.2.1
    have h2 : ((fun (v : Value) (_ : World) => v = .string S1)) (y 2) X := hf.2.2.1
    have h3 : ((fun (v : Value) (_ : World) => v = .string (S1 ++ ⟨#[47]⟩))) (y 3) X := hf.2.2.2.1
    have h4 : ((fun (v : Value) (_ : World) => v = .pointer (some ⟨W3.heap.size, 2, none⟩))) (y 4) X := hf.2.2.2.2.1
    obtain ⟨b5, A5, n5, c5, h5, z5⟩ : ((fun (v : Value) (X : World) => ∃ b A n c, v = .agg #[.bool b, .slice A n c] ∧ ZV X (.agg #[.bool b, .slice A n c]) (vy))) (y 5) X := hf.2.2.2.2.2.1
    have h6 : ((fun (v : Value) (_ : World) => v = .string S3)) (y 6) X := hf.2.2.2.2.2.2.1
    have h7 : ((fun (v : Value) (_ : World) => v = .string (S1 ++ ⟨#[47]⟩ ++ S3))) (y 7) X := hf.2.2.2.2.2.2.2.1
    clear hf
    clear hsep hlt
    refine Box.mk ?_
    simp only [List.drop_succ_cons, List.drop_zero, fill, Act.put, Nat.reduceAdd, List.setIfInBounds_toArray, List.set_cons_zero, List.set_cons_succ, h0, h1, h2, h3, h4, h5, h6, h7]
    clear h0 h1 h2 h3 h4 h5 h6 h7
    have EX := Lib.hid (E5.out.trans ex); clear ex z1 z5
    go_wp2_with fail
    refine NoPanic.normal ?_
    go_wp2
    go_ret2
    exact ⟨by rw [HC.out]; rfl, Ext.below EX.out⟩
theorem ratPrint_u (p q : Bool) (A A' : Option Addr) (n c n' c' : Nat) (l l' : List Nat) (w : World) (hx : Wd w (.slice A n c) l) (hy : Wd w (.slice A' n' c') l') (hp : vldR p q l l' = true) (htab : Tab w) : Calls Tryz.prog 11 #[.agg #[.bool p, .slice A n c, .bool q, .slice A' n' c']] w fun e w' => e = .returned (.tuple #[.string ⟨(pT (numOf p l) (numOf q l')).toArray⟩, .int .i64 0]) ∧ Below w.heap.size w w' := by
  unfold pT
  by_cases h : numOf q l' = 1
  · rw [if_pos h]; exact ratPrint_one p q A A' n c n' c' l l' w hx hy hp h htab
  · rw [if_neg h]; exact ratPrint_two p q A A' n c n' c' l l' w hx hy hp h htab
end Go.Proofs.YtmlopkkbgpfdnaaGreatDoor
