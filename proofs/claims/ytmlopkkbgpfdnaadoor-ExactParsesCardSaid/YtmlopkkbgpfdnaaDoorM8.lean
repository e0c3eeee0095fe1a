/- Walks: reading a group of digits; digits; a whole number. · Walks: decimal, read, exact.Parse. · Walks: read, exact.Parse. · Walks: exact.Parse. · Walks: combine, Sub. · Walks: combine, Mul. -/
import Derived.Test.YtmlopkkbgpfdnaaDoorM4
import Derived.Test.YtmlopkkbgpfdnaaDoorM7
import Derived.Lib.PathFns
import Derived.Test.YtmlopkkbgpfdnaaDoorM6
namespace Go.Proofs.YtmlopkkbgpfdnaaDoor
open Go.RowKit

theorem ba_len (s : ByteArray) : s.data.toList.length = s.size := rfl
theorem ba_get (s : ByteArray) (k : Nat) (h : k < s.size) : s[k] = s.data.toList[k]'h := rfl
theorem ofD_take (l : List UInt8) (k : Nat) (h : k < l.length) : ofD (l.take (k + 1)) = 10 * ofD (l.take k) + (l[k].toNat - 48) := by
  rw [← ofD_snoc, List.take_append_getElem]
theorem take_isD {l : List UInt8} (h : ∀ c ∈ l, isD c) (k : Nat) : ∀ c ∈ l.take k, isD c := fun c hc => h c (List.mem_of_mem_take hc)
theorem drop_isD {l : List UInt8} (h : ∀ c ∈ l, isD c) (k : Nat) : ∀ c ∈ l.drop k, isD c := fun c hc => h c (List.mem_of_mem_drop hc)

/-- the length of a string -/
def bLen : Value → Nat
  | .string t => t.size
  | _ => 0

set_option maxHeartbeats 400000 in
set_option maxRecDepth 100000 in
theorem readGroup_any (s : ByteArray) (w : World) (hd : ∀ c ∈ s.data.toList, isD c) (hl : s.size ≤ 9) :
    Calls Tryd.prog 57 #[.string s] w fun e w' => ∃ u, e = .returned u ∧ Wd w' u (dig (ofD s.data.toList)) ∧ Below w.heap.size w w' := by
  have Hd := Lib.hid hd; clear hd
  go_enter Tryd.func57, Tryd.ntmps57
  go_wp2
  go_loop [3, 7] (fun nv iv => ∃ k : Nat, iv = .int .i64 k ∧ k ≤ s.size ∧ nv = .int .u64 (ofD (s.data.toList.take k) : Nat)) (fun _ iv => s.size - (intOf iv).toNat)
  case atStart => exact ⟨0, rfl, Nat.zero_le _, rfl⟩
  case round =>
    obtain ⟨k, rfl, hk, rfl⟩ := hrel
    by_cases hlt : k < s.size
    · obtain ⟨c, hc⟩ : ∃ c, c = s.data.toList[k]'hlt := ⟨_, rfl⟩
      have hcd : isD c := by rw [hc]; exact Hd.out _ (List.getElem_mem _)
      have h1 := hcd.1
      have h2 := hcd.2
      have ht := ofD_take s.data.toList k hlt
      rw [← hc] at ht
      have hb := ofD_group (s.data.toList.take k) (take_isD Hd.out k) (by rw [List.length_take, ba_len]; omega)
      obtain ⟨v, hv⟩ : ∃ v, v = ofD (s.data.toList.take k) := ⟨_, rfl⟩
      rw [← hv] at ht hb ⊢
      have Ht := Lib.hid ht; clear ht
      have Hc := Lib.hid hc
      clear hc hv hcd
      go_wp2
      go_round
      case rel =>
        refine ⟨k + 1, rfl, by omega, ?_⟩
        rw [Ht.out]
        congr 1
        rw [ba_get, ← Hc.out]
        have e1 : IntKind.u64.wrap (10 * (v : Int)) = 10 * (v : Int) := by rw [IntKind.wrap_u64]; omega
        have e2 : ((c.toNat : Int) - 48) % 256 = ((c.toNat - 48 : Nat) : Int) := by omega
        rw [e2]
        try rw [e1]
        try rw [IntKind.wrap_u64]
        omega
      case measure => simp [intOf]; omega
    · have hk' : k = s.size := by omega
      subst hk'
      have hb := ofD_group s.data.toList Hd.out (by rw [ba_len]; omega)
      rw [List.take_of_length_le (by rw [ba_len]; exact Nat.le_refl _)]
      obtain ⟨v, hv⟩ : ∃ v, v = ofD s.data.toList := ⟨_, rfl⟩
      rw [← hv] at hb ⊢
      have Hv := Lib.hid hv; clear hv
      go_wp2_with fail
      refine (naturalOf_any v (by omega) w).mono ?_
      rintro e w1 ⟨u, rfl, hu, hb1⟩
      go_wp2
      go_ret
      exact ⟨u, rfl, by rw [← Hv.out]; exact hu, hb1⟩

theorem ba_empty (t : ByteArray) : t.toList.isEmpty = decide (t.size = 0) := by
  rw [Lib.toList_data, ← ba_len]
  cases t.data.toList <;> simp
theorem ba_extract (t : ByteArray) (a b : Nat) : (t.extract a b).data.toList = (t.data.toList.drop a).take (b - a) := by
  rw [ByteArray.data_extract, Array.toList_extract, List.extract_eq_take_drop]
theorem dig_mul_giga {P L : Nat} (h : (dig P).length ≤ L) : (dig (P * 1000000000)).length ≤ L + 1 := by
  refine dig_len_le ?_
  have h1 := lt_of_dig_len h
  rw [Nat.pow_succ]
  exact Nat.lt_of_le_of_lt (Nat.mul_le_mul_right _ (Nat.le_of_lt h1)) (Nat.mul_lt_mul_of_pos_left (by omega) (Nat.pow_pos (by omega)))
theorem ofD_len (l : List UInt8) (L : Nat) (h : ∀ c ∈ l, isD c) (hl : l.length ≤ 9 * L) : (dig (ofD l)).length ≤ L := dig_len_le (ofD_lt_words l L h hl)
theorem dig_giga : dig 1000000000 = [1000000000] := by rw [dig_pos (by decide)]; rw [show 1000000000 / 4294967296 = 0 by decide, dig_zero]
theorem wd_one (X : World) : Wd (X.alloc (.cells #[.int .u32 1000000000] 45)) (.slice (some ⟨X.heap.size, 0, none⟩) 1 1) (dig 1000000000) := by
  rw [dig_giga]
  exact Wd.new X [1000000000] (Ok.mk (by decide) Ok.nil) _ _ 1 1 rfl (by decide) (by decide) (fun j hj => by match j, hj with | 0, _ => rfl)
theorem asSl {f : Nat} {args : Array Value} {w W : World} {l : List Nat} (h : Calls Tryd.prog f args w fun e w' => ∃ r, e = .returned r ∧ Wd w' r l ∧ Below W.heap.size W w') :
    Calls Tryd.prog f args w fun e w' => ∃ A n c, e = .returned (.slice A n c) ∧ Wd w' (.slice A n c) l ∧ Below W.heap.size W w' := by
  refine h.mono ?_
  rintro e w' ⟨r, rfl, hr, hb⟩
  obtain ⟨A, n, c, rfl⟩ := hr.slice_
  exact ⟨A, n, c, rfl, hr, hb⟩

theorem drop_lt {l : List UInt8} {k : Nat} (h : k < l.length) : 0 < (l.drop k).length := by rw [List.length_drop]; omega

set_option maxHeartbeats 400000 in
set_option maxRecDepth 100000 in
theorem readDigits_any (s : ByteArray) (w : World) (hd : ∀ c ∈ s.data.toList, isD c) (hl : s.size ≤ 2500) :
    Calls Tryd.prog 37 #[.string s] w fun e w' => ∃ u, e = .returned u ∧ Wd w' u (dig (ofD s.data.toList)) ∧ Below w.heap.size w w' := by
  have Hd := Lib.hid hd; clear hd
  go_enter Tryd.func37, Tryd.ntmps37
  go_wp2
  go_loopw [0, 3] (fun sv av wr => ∃ (t : ByteArray) (m : Nat), sv = .string t ∧ m + t.size = s.size ∧ t.data.toList = s.data.toList.drop m ∧ (m = 0 ∨ t.size % 9 = 0) ∧ Wd wr av (dig (ofD (s.data.toList.take m))) ∧ Below w.heap.size w wr) (fun sv _ _ => bLen sv)
  case atStart => exact ⟨s, 0, rfl, by omega, by simp, Or.inl rfl, by simp [ofD_nil, dig_zero]; exact Wd.nil_ _, Below.refl _ _⟩
  case round =>
    obtain ⟨t, m, rfl, hm, ht, h9, hav, hbel⟩ := hrel
    obtain ⟨A, c, rfl, -, -⟩ := hav.shape
    have Hav := Lib.hid hav; clear hav
    have Ht := Lib.hid ht; clear ht
    have hte := ba_empty t
    by_cases ht0 : t.size = 0
    · rw [ht0] at hte
      have hte' : t.toList.isEmpty = true := by rw [hte]; rfl
      clear hte
      have hms : m = s.size := by omega
      subst hms
      rw [List.take_of_length_le (by rw [ba_len]; exact Nat.le_refl _)] at Hav ⊢
      go_wp2
      go_ret
      exact ⟨_, rfl, Hav.out, hbel⟩
    · have hte' : t.toList.isEmpty = false := by rw [hte]; simp [ht0]
      clear hte
      obtain ⟨P, hP⟩ : ∃ P, P = ofD (s.data.toList.take m) := ⟨_, rfl⟩
      have hPl : (dig P).length ≤ 278 := by rw [hP]; exact ofD_len _ _ (take_isD Hd.out m) (by rw [List.length_take, ba_len]; omega)
      rw [← hP] at Hav ⊢
      obtain ⟨nP, hnP⟩ : ∃ n, n = (dig P).length := ⟨_, rfl⟩
      rw [← hnP] at Hav ⊢
      obtain ⟨nn, hnn⟩ : ∃ nn : Nat, ((t.size : Int) - 1) % 9 + 1 = (nn : Int) := ⟨(t.size - 1) % 9 + 1, by omega⟩
      have hn1 : 1 ≤ nn := by omega
      have hn2 : nn ≤ t.size := by omega
      have hn3 : nn ≤ 9 := by omega
      obtain ⟨g, hg⟩ : ∃ g : ByteArray, g = t.extract 0 nn := ⟨_, rfl⟩
      have hgt : g.data.toList = t.data.toList.take nn := by rw [hg, ba_extract, List.drop_zero, Nat.sub_zero]
      have HP : Hid ((dig P).length ≤ 1000000) := Lib.hid (by omega)
      have HP2 : Hid ((dig (P * 1000000000)).length ≤ 1000000) := Lib.hid (by have := dig_mul_giga hPl; omega)
      have HGd : Hid (∀ c ∈ g.data.toList, isD c) := Lib.hid (by rw [hgt]; exact take_isD (by rw [Ht.out]; exact drop_isD Hd.out m) nn)
      have HGl : Hid (g.size ≤ 9) := Lib.hid (by rw [← ba_len, hgt, List.length_take]; omega)
      have HG2 : Hid ((dig (ofD g.data.toList)).length ≤ 1000000) := Lib.hid (by
        have h1 := ofD_group g.data.toList HGd.out (by rw [ba_len]; exact HGl.out)
        have h2 := dig_len_le (n := ofD g.data.toList) (k := 1) (by omega)
        omega)
      have Hnn := Lib.hid hnn
      have HnP := Lib.hid hnP; clear hnP
      have HPe := Lib.hid hP; clear hP hPl
      have Hgt := Lib.hid hgt; clear hgt
      have Hg := Lib.hid hg; clear hg
      go_upto_region 4 with fail
      refine wp_region_noPanic ?_
      refine wp_pool 8 [some 12, some 13, some 14, some 15, some 16, some 17, some 18, some 19] [] [] [(fun (v : Value) (X : World) => ∃ A n c, v = .slice A n c ∧ Wd X (.slice A n c) (dig (P))), (fun (v : Value) (X : World) => ∃ A n c, v = .slice A n c ∧ Wd X (.slice A n c) (dig (1000000000))), (fun (v : Value) (X : World) => ∃ A n c, v = .slice A n c ∧ Wd X (.slice A n c) (dig (P * 1000000000))), (fun (v : Value) (_ : World) => v = .string t), (fun (v : Value) (_ : World) => v = .int .i64 (nn : Int)), (fun (v : Value) (_ : World) => v = .string g), (fun (v : Value) (X : World) => ∃ A n c, v = .slice A n c ∧ Wd X (.slice A n c) (dig (ofD g.data.toList))), (fun (v : Value) (X : World) => ∃ A n c, v = .slice A n c ∧ Wd X (.slice A n c) (dig (P * 1000000000 + ofD g.data.toList)))] [noF, noF, noF, noF, noF, noF, noF, noF] (by kernel_rfl) (by kernel_rfl) (by kernel_rfl) (by kernel_rfl) (by kernel_rfl) (by kernel_rfl) (by kernel_rfl) (by kernel_rfl) (fun _ _ _ _ h => h) ⟨(fun _ _ _ e ⟨A, n, c, h1, h2⟩ => ⟨A, n, c, h1, h2.below e⟩), (fun _ _ _ e ⟨A, n, c, h1, h2⟩ => ⟨A, n, c, h1, h2.below e⟩), (fun _ _ _ e ⟨A, n, c, h1, h2⟩ => ⟨A, n, c, h1, h2.below e⟩), Stays.pure _, Stays.pure _, Stays.pure _, (fun _ _ _ e ⟨A, n, c, h1, h2⟩ => ⟨A, n, c, h1, h2.below e⟩), (fun _ _ _ e ⟨A, n, c, h1, h2⟩ => ⟨A, n, c, h1, h2.below e⟩), True.intro⟩ ?steps ?done
      case steps =>
        simp only [List.take_succ_cons, List.take_zero]
        refine Steps.cons (fun (v : Value) (X : World) => ∃ A n c, v = .slice A n c ∧ Wd X (.slice A n c) (dig (P))) [] rfl (by kernel_rfl) rfl (by kernel_rfl) (fun y X ex0 hf K hK => ?_) ?_
        · clear hf
          have ex := (Ext.drw (Ext.refl _)).trans ex0
          refine Box.mk ?_
          simp only [fill, Act.put, Nat.reduceAdd, List.setIfInBounds_toArray, List.set_cons_zero, List.set_cons_succ] at hK ⊢
          have kw := Hav.out.below ex
          go_simp
          exact hK.out _ _ ⟨_, _, _, rfl, kw⟩ (Ext.refl _) (fun b hb => by cases hb)
        refine Steps.cons (fun (v : Value) (X : World) => ∃ A n c, v = .slice A n c ∧ Wd X (.slice A n c) (dig (1000000000))) [] rfl (by kernel_rfl) rfl (by kernel_rfl) (fun y X ex0 hf K hK => ?_) ?_
        · clear hf
          have ex := (Ext.drw (Ext.refl _)).trans ex0
          refine Box.mk ?_
          simp only [fill, Act.put, Nat.reduceAdd, List.setIfInBounds_toArray, List.set_cons_zero, List.set_cons_succ] at hK ⊢
          have kw := wd_one X
          go_simp
          exact hK.out _ _ ⟨_, _, _, rfl, kw⟩ (Ext.alc (Ext.refl X) (.cells #[.int .u32 1000000000] 45)) (fun b hb => by cases hb)
        refine Steps.cons (fun (v : Value) (X : World) => ∃ A n c, v = .slice A n c ∧ Wd X (.slice A n c) (dig (P * 1000000000))) [0, 1] rfl (by kernel_rfl) rfl (by kernel_rfl) (fun y X ex0 hf K hK => ?_) ?_
        · obtain ⟨A0, n0, c0, h0, z0⟩ : ((fun (v : Value) (X : World) => ∃ A n c, v = .slice A n c ∧ Wd X (.slice A n c) (dig (P)))) (y 0) X := hf.1
          obtain ⟨A1, n1, c1, h1, z1⟩ : ((fun (v : Value) (X : World) => ∃ A n c, v = .slice A n c ∧ Wd X (.slice A n c) (dig (1000000000)))) (y 1) X := hf.2.1
          clear hf
          have ex := (Ext.drw (Ext.refl _)).trans ex0
          refine Box.mk ?_
          simp only [fill, Act.put, Nat.reduceAdd, List.setIfInBounds_toArray, List.set_cons_zero, List.set_cons_succ, h0, h1] at hK ⊢
          go_simp
          refine (asSl (timesE_any _ _ _ _ _ z0 z1 HP.out (by rw [dig_giga]; decide))).mono ?_
          rintro e V ⟨A9, n9, c9, rfl, hz, hb⟩
          try go_wp2_with fail
          exact hK.out _ _ ⟨_, _, _, rfl, hz⟩ hb (fun b hb => by cases hb)
        refine Steps.cons (fun (v : Value) (_ : World) => v = .string t) [] rfl (by kernel_rfl) rfl (by kernel_rfl) (fun y X ex0 hf K hK => ?_) ?_
        · clear hf
          have ex := (Ext.drw (Ext.refl _)).trans ex0
          refine Box.mk ?_
          simp only [fill, Act.put, Nat.reduceAdd, List.setIfInBounds_toArray, List.set_cons_zero, List.set_cons_succ] at hK ⊢
          go_simp
          exact hK.out _ _ rfl (Ext.refl _) (fun b hb => by cases hb)
        refine Steps.cons (fun (v : Value) (_ : World) => v = .int .i64 (nn : Int)) [] rfl (by kernel_rfl) rfl (by kernel_rfl) (fun y X ex0 hf K hK => ?_) ?_
        · clear hf
          have ex := (Ext.drw (Ext.refl _)).trans ex0
          refine Box.mk ?_
          simp only [fill, Act.put, Nat.reduceAdd, List.setIfInBounds_toArray, List.set_cons_zero, List.set_cons_succ] at hK ⊢
          go_simp
          exact hK.out _ _ rfl (Ext.refl _) (fun b hb => by cases hb)
        refine Steps.cons (fun (v : Value) (_ : World) => v = .string g) [3, 4] rfl (by kernel_rfl) rfl (by kernel_rfl) (fun y X ex0 hf K hK => ?_) ?_
        · have h3 : ((fun (v : Value) (_ : World) => v = .string t)) (y 3) X := hf.1
          have h4 : ((fun (v : Value) (_ : World) => v = .int .i64 (nn : Int))) (y 4) X := hf.2.1
          clear hf
          have ex := (Ext.drw (Ext.refl _)).trans ex0
          refine Box.mk ?_
          simp only [fill, Act.put, Nat.reduceAdd, List.setIfInBounds_toArray, List.set_cons_zero, List.set_cons_succ, h3, h4] at hK ⊢
          go_simp
          exact hK.out _ _ (by rw [Hg.out]) (Ext.refl _) (fun b hb => by cases hb)
        refine Steps.cons (fun (v : Value) (X : World) => ∃ A n c, v = .slice A n c ∧ Wd X (.slice A n c) (dig (ofD g.data.toList))) [5, 2] rfl (by kernel_rfl) rfl (by kernel_rfl) (fun y X ex0 hf K hK => ?_) ?_
        · have h5 : ((fun (v : Value) (_ : World) => v = .string g)) (y 5) X := hf.1
          obtain ⟨A2, n2, c2, h2, z2⟩ : ((fun (v : Value) (X : World) => ∃ A n c, v = .slice A n c ∧ Wd X (.slice A n c) (dig (P * 1000000000)))) (y 2) X := hf.2.1
          clear hf
          have ex := (Ext.drw (Ext.refl _)).trans ex0
          refine Box.mk ?_
          simp only [fill, Act.put, Nat.reduceAdd, List.setIfInBounds_toArray, List.set_cons_zero, List.set_cons_succ, h5, h2] at hK ⊢
          go_simp
          refine (asSl (readGroup_any g _ HGd.out HGl.out)).mono ?_
          rintro e V ⟨A9, n9, c9, rfl, hz, hb⟩
          try go_wp2_with fail
          exact hK.out _ _ ⟨_, _, _, rfl, hz⟩ hb (fun b hb => by cases hb)
        refine Steps.cons (fun (v : Value) (X : World) => ∃ A n c, v = .slice A n c ∧ Wd X (.slice A n c) (dig (P * 1000000000 + ofD g.data.toList))) [2, 6] rfl (by kernel_rfl) rfl (by kernel_rfl) (fun y X ex0 hf K hK => ?_) ?_
        · obtain ⟨A2, n2, c2, h2, z2⟩ : ((fun (v : Value) (X : World) => ∃ A n c, v = .slice A n c ∧ Wd X (.slice A n c) (dig (P * 1000000000)))) (y 2) X := hf.1
          obtain ⟨A6, n6, c6, h6, z6⟩ : ((fun (v : Value) (X : World) => ∃ A n c, v = .slice A n c ∧ Wd X (.slice A n c) (dig (ofD g.data.toList)))) (y 6) X := hf.2.1
          clear hf
          have ex := (Ext.drw (Ext.refl _)).trans ex0
          refine Box.mk ?_
          simp only [fill, Act.put, Nat.reduceAdd, List.setIfInBounds_toArray, List.set_cons_zero, List.set_cons_succ, h2, h6] at hK ⊢
          go_simp
          refine (asSl (plusE_any _ _ _ _ _ z2 z6 HP2.out HG2.out)).mono ?_
          rintro e V ⟨A9, n9, c9, rfl, hz, hb⟩
          try go_wp2_with fail
          exact hK.out _ _ ⟨_, _, _, rfl, hz⟩ hb (fun b hb => by cases hb)
        exact Steps.nil
      case done =>
        intro y X ex hf hlt hsep
        obtain ⟨A0, n0, c0, h0, z0⟩ : ((fun (v : Value) (X : World) => ∃ A n c, v = .slice A n c ∧ Wd X (.slice A n c) (dig (P)))) (y 0) X := hf.1
        obtain ⟨A1, n1, c1, h1, z1⟩ : ((fun (v : Value) (X : World) => ∃ A n c, v = .slice A n c ∧ Wd X (.slice A n c) (dig (1000000000)))) (y 1) X := hf.2.1
        obtain ⟨A2, n2, c2, h2, z2⟩ : ((fun (v : Value) (X : World) => ∃ A n c, v = .slice A n c ∧ Wd X (.slice A n c) (dig (P * 1000000000)))) (y 2) X := hf.2.2.1
        have h3 : ((fun (v : Value) (_ : World) => v = .string t)) (y 3) X := hf.2.2.2.1
        have h4 : ((fun (v : Value) (_ : World) => v = .int .i64 (nn : Int))) (y 4) X := hf.2.2.2.2.1
        have h5 : ((fun (v : Value) (_ : World) => v = .string g)) (y 5) X := hf.2.2.2.2.2.1
        obtain ⟨A6, n6, c6, h6, z6⟩ : ((fun (v : Value) (X : World) => ∃ A n c, v = .slice A n c ∧ Wd X (.slice A n c) (dig (ofD g.data.toList)))) (y 6) X := hf.2.2.2.2.2.2.1
        obtain ⟨A7, n7, c7, h7, z7⟩ : ((fun (v : Value) (X : World) => ∃ A n c, v = .slice A n c ∧ Wd X (.slice A n c) (dig (P * 1000000000 + ofD g.data.toList)))) (y 7) X := hf.2.2.2.2.2.2.2.1
        clear hf
        clear hsep hlt
        refine Box.mk ?_
        simp only [List.drop_succ_cons, List.drop_zero, fill, Act.put, Nat.reduceAdd, List.setIfInBounds_toArray, List.set_cons_zero, List.set_cons_succ, h0, h1, h2, h3, h4, h5, h6, h7]
        clear h0 h1 h2 h3 h4 h5 h6 h7
        have EX := Lib.hid ex; clear ex
        have kz := Lib.hid z7
        clear z0 z1 z2 z6 z7
        go_wp2_with fail
        refine NoPanic.normal ?_
        go_wp2_with fail
        go_roundw
        case rel =>
          have e1 : (t.extract nn t.size).data.toList = t.data.toList.drop nn := by
            rw [ba_extract, List.take_of_length_le (by rw [List.length_drop, ba_len]; exact Nat.le_refl _)]
          have e2 : (t.extract nn t.size).size = t.size - nn := by rw [← ba_len, e1, List.length_drop, ba_len]
          refine ⟨t.extract nn t.size, m + nn, rfl, by rw [e2]; omega, by rw [e1, Ht.out, List.drop_drop], Or.inr (by rw [e2]; omega), ?_, hbel.trans (EX.out.mono hbel.size)⟩
          have e3 : ofD (s.data.toList.take (m + nn)) = P * 1000000000 + ofD g.data.toList := by
            rw [List.take_add, ofD_append, ← HPe.out, ← Ht.out, ← Hgt.out]
            rcases h9 with h9 | h9
            · have : P = 0 := by rw [HPe.out, h9, List.take_zero, ofD_nil]
              rw [this, Nat.zero_mul, Nat.zero_mul]
            · have e4 : g.data.toList.length = 9 := by rw [Hgt.out, List.length_take, ba_len]; omega
              rw [e4]
          rw [e3]
          exact kz.out
        case measure =>
          have e2 : (t.extract nn t.size).size = t.size - nn := by rw [← ba_len, ba_extract, List.length_take, List.length_drop, ba_len]; omega
          simp only [bLen, e2]
          omega

end Go.Proofs.YtmlopkkbgpfdnaaDoor
namespace Go.Proofs.YtmlopkkbgpfdnaaDoor
open Go.RowKit

set_option maxHeartbeats 400000 in
set_option maxRecDepth 100000 in
theorem decimal_none (s : ByteArray) (w : World) (h : s.size = 0) : Calls Tryd.prog 36 #[.string s] w fun e w' => e = .returned (.bool false) ∧ w' = w := by
  have hte : s.toList.isEmpty = true := by rw [ba_empty, h]; rfl
  go_enter Tryd.func36, Tryd.ntmps36
  go_wp2
  go_ret
  exact ⟨rfl, rfl⟩

set_option maxHeartbeats 400000 in
set_option maxRecDepth 100000 in
theorem decimal_long (s : ByteArray) (w : World) (h : 2500 < s.size) : Calls Tryd.prog 36 #[.string s] w fun e w' => e = .returned (.bool false) ∧ w' = w := by
  have hte : s.toList.isEmpty = false := by rw [ba_empty]; exact decide_eq_false (by omega)
  go_enter Tryd.func36, Tryd.ntmps36
  go_wp2
  go_ret
  exact ⟨rfl, rfl⟩

set_option maxHeartbeats 400000 in
set_option maxRecDepth 100000 in
theorem decimal_zero (s : ByteArray) (w : World) (h : 1 < s.size) (h2 : s.size ≤ 2500) (h3 : s[0] = 48) : Calls Tryd.prog 36 #[.string s] w fun e w' => e = .returned (.bool false) ∧ w' = w := by
  have hte : s.toList.isEmpty = false := by rw [ba_empty]; exact decide_eq_false (by omega)
  go_enter Tryd.func36, Tryd.ntmps36
  go_wp2
  go_ret
  exact ⟨rfl, rfl⟩

/-- all are digits -/
def allD (l : List UInt8) : Bool := l.all fun c => decide (48 ≤ c.toNat) && decide (c.toNat ≤ 57)
theorem allD_iff {l : List UInt8} : allD l = true ↔ ∀ c ∈ l, isD c := by
  simp [allD, isD]
theorem allD_take {l : List UInt8} {k : Nat} (hk : k < l.length) (h : allD (l.take k) = true) (hc : isD l[k]) : allD (l.take (k + 1)) = true := by
  rw [allD_iff] at h ⊢
  intro c hm
  rw [← List.take_append_getElem hk] at hm
  rcases List.mem_append.1 hm with hm | hm
  · exact h c hm
  · rw [List.mem_singleton.1 hm]; exact hc

set_option maxHeartbeats 400000 in
set_option maxRecDepth 100000 in
theorem decimal_loop (s : ByteArray) (w : World) (h : 0 < s.size) (h2 : s.size ≤ 2500) (h3 : s[0] = 48 → s.size = 1) : Calls Tryd.prog 36 #[.string s] w fun e w' => e = .returned (.bool (allD s.data.toList)) ∧ w' = w := by
  have hte : s.toList.isEmpty = false := by rw [ba_empty]; exact decide_eq_false (by omega)
  have H3 := Lib.hid h3; clear h3
  go_enter Tryd.func36, Tryd.ntmps36
  go_upto_region 1 with fail
  go_cut [20] (fun a wx => a = .bool false ∧ wx = w)
  case first =>
    by_cases hz : (s[0].toNat : Int) = 48
    · have hz2 : s[0] = 48 := UInt8.toNat_inj.1 (by show s[0].toNat = 48; omega)
      have h1 : s.size = 1 := H3.out hz2
      have h4 : (s.size : Int) ≤ 1 := by omega
      go_wp2_with fail
      go_meet
      exact ⟨rfl, rfl⟩
    · go_wp2_with fail
      go_meet
      exact ⟨rfl, rfl⟩
  case rest =>
    obtain ⟨rfl, rfl⟩ := hcut
    go_wp2_with fail
    go_loop [23] (fun iv => ∃ k : Nat, iv = .int .i64 k ∧ k ≤ s.size ∧ allD (s.data.toList.take k) = true) (fun iv => s.size - (intOf iv).toNat)
    case atStart => exact ⟨0, rfl, Nat.zero_le _, rfl⟩
    case round =>
      obtain ⟨k, rfl, hk, hall⟩ := hrel
      have HA := Lib.hid hall; clear hall
      by_cases hlt : k < s.size
      · obtain ⟨c, hc⟩ : ∃ c : UInt8, c = s[k] := ⟨_, rfl⟩
        have HC := Lib.hid hc
        clear hc
        by_cases hc1 : (s[k].toNat : Int) < 48
        · go_wp2
          go_ret
          have hn : allD s.data.toList = false := by
            rw [Bool.eq_false_iff]
            intro e
            have := (allD_iff.1 e _ (List.getElem_mem (l := s.data.toList) hlt)).1
            rw [← ba_get] at this
            omega
          exact ⟨by rw [hn]; rfl, rfl⟩
        · by_cases hc2 : (57 : Int) < (s[k].toNat : Int)
          · go_wp2
            go_ret
            have hn : allD s.data.toList = false := by
              rw [Bool.eq_false_iff]
              intro e
              have := (allD_iff.1 e _ (List.getElem_mem (l := s.data.toList) hlt)).2
              rw [← ba_get] at this
              omega
            exact ⟨by rw [hn]; rfl, rfl⟩
          · go_wp2
            go_round
            case rel =>
              refine ⟨k + 1, by go_num, by omega, allD_take hlt HA.out ?_⟩
              rw [← ba_get]
              unfold isD
              omega
            case measure => simp [intOf]; omega
      · have hk' : k = s.size := by omega
        subst hk'
        have h6 := HA.out
        rw [List.take_of_length_le (by rw [ba_len]; exact Nat.le_refl _)] at h6
        have H6 := Lib.hid h6; clear h6
        go_wp2
        go_ret
        exact ⟨by rw [H6.out]; rfl, rfl⟩

theorem decimal_yes (s : ByteArray) (w : World) (h : canon s.data.toList) (h2 : s.size ≤ 2500) : Calls Tryd.prog 36 #[.string s] w fun e w' => e = .returned (.bool true) ∧ w' = w := by
  have h0 : 0 < s.size := List.length_pos_iff.2 h.1
  have hl := decimal_loop s w h0 h2 (fun e => h.2.2 (by rw [List.head?_eq_getElem?, List.getElem?_eq_getElem (show 0 < s.data.toList.length from h0)]; exact congrArg some e))
  rw [allD_iff.2 h.2.1] at hl
  exact hl
theorem decimal_no (s : ByteArray) (w : World) (h : ¬(canon s.data.toList ∧ s.size ≤ 2500)) : Calls Tryd.prog 36 #[.string s] w fun e w' => e = .returned (.bool false) ∧ w' = w := by
  by_cases h0 : s.size = 0
  · exact decimal_none s w h0
  by_cases h2 : 2500 < s.size
  · exact decimal_long s w h2
  by_cases h3 : s[0]'(by omega) = 48 ∧ 1 < s.size
  · exact decimal_zero s w h3.2 (by omega) h3.1
  have hl := decimal_loop s w (by omega) (by omega) (fun e => by
    by_cases h4 : 1 < s.size
    · exact absurd ⟨e, h4⟩ h3
    · omega)
  by_cases ha : allD s.data.toList = true
  · refine absurd ⟨⟨?_, allD_iff.1 ha, fun e => ?_⟩, by omega⟩ h
    · intro e
      exact h0 (by rw [← ba_len, e]; rfl)
    · rw [List.head?_eq_getElem?, List.getElem?_eq_getElem (show 0 < s.data.toList.length from by rw [ba_len]; omega)] at e
      rw [ba_len]
      by_cases h4 : 1 < s.size
      · exact absurd ⟨Option.some.inj e, h4⟩ h3
      · omega
  · rw [Bool.eq_false_iff.2 ha] at hl
    exact hl
end Go.Proofs.YtmlopkkbgpfdnaaDoor
namespace Go.Proofs.YtmlopkkbgpfdnaaDoor
open Go.RowKit

/-- the digits, and whether a minus stands in front -/
def digT (l : List UInt8) : List UInt8 := Lib.trimPrefix l [45]
def negT (l : List UInt8) : Bool := Lib.hasPrefix l [45]
/-- the text of a number -/
def okT (l : List UInt8) : Prop := (canon (digT l) ∧ (digT l).length ≤ 2500) ∧ ¬(negT l = true ∧ digT l = [48])
def numT (l : List UInt8) : Int := if negT l then -(ofD (digT l) : Int) else (ofD (digT l) : Int)

theorem ba_mk (d : ByteArray) : d = ⟨d.data.toList.toArray⟩ := by cases d; simp
theorem cut_minus (s : ByteArray) (d : ByteArray) (neg : Bool) (hd : d.data.toList = digT s.data.toList) (hn : neg = negT s.data.toList) (w : World) :
    Calls Tryd.prog 21 #[.string s, .string ⟨#[45]⟩] w fun e w' => e = .returned (.tuple #[.string d, .bool neg]) ∧ w' = w := by
  have h := Tryd.strings_CutPrefix s ⟨#[45]⟩ w
  have e1 : (⟨(Lib.trimPrefix s.data.toList (⟨#[45]⟩ : ByteArray).data.toList).toArray⟩ : ByteArray) = d := by rw [ba_mk d, hd]; rfl
  have e2 : Lib.hasPrefix s.data.toList (⟨#[45]⟩ : ByteArray).data.toList = neg := by rw [hn]; rfl
  rw [e1, e2] at h
  exact h

set_option maxHeartbeats 400000 in
set_option maxRecDepth 100000 in
theorem read_nodec (s : ByteArray) (w : World) (h : ¬(canon (digT s.data.toList) ∧ (digT s.data.toList).length ≤ 2500)) :
    Calls Tryd.prog 18 #[.string s] w fun e w' => e = .returned (.tuple #[.agg #[.bool false, .slice none 0 0], .bool false]) ∧ Below w.heap.size w w' := by
  obtain ⟨d, hd⟩ : ∃ d : ByteArray, d.data.toList = digT s.data.toList := ⟨⟨(digT s.data.toList).toArray⟩, rfl⟩
  obtain ⟨neg, hn⟩ : ∃ neg, neg = negT s.data.toList := ⟨_, rfl⟩
  have CM := Lib.hid (cut_minus s d neg hd hn)
  rw [← hd] at h
  have HD := Lib.hid (fun W => decimal_no d W h)
  clear hd hn h
  go_enter Tryd.func18, Tryd.ntmps18
  go_wp2_with fail
  refine (CM.out _).mono ?_
  rintro e w1 ⟨rfl, rfl⟩
  go_wp2_with fail
  refine (HD.out _).mono ?_
  rintro e w1 ⟨rfl, rfl⟩
  go_wp2_with fail
  exact bodyPost_ret (v := .tuple #[.agg #[.bool false, .slice none 0 0], .bool false]) (by simp [results, Tryd.results18, go_sem]) rfl ⟨rfl, below_alloc _ _⟩

theorem canon_zero : canon [48] := ⟨by simp, by intro c hc; rw [List.mem_singleton.1 hc]; exact ⟨by decide, by decide⟩, by intro _; rfl⟩

set_option maxHeartbeats 400000 in
set_option maxRecDepth 100000 in
theorem read_minus0 (s : ByteArray) (w : World) (h1 : negT s.data.toList = true) (h2 : digT s.data.toList = [48]) :
    Calls Tryd.prog 18 #[.string s] w fun e w' => e = .returned (.tuple #[.agg #[.bool false, .slice none 0 0], .bool false]) ∧ Below w.heap.size w w' := by
  have CM := Lib.hid (cut_minus s ⟨#[48]⟩ true h2.symm h1.symm)
  have HD := Lib.hid (fun W => decimal_yes ⟨#[48]⟩ W canon_zero (by decide))
  clear h1 h2
  go_enter Tryd.func18, Tryd.ntmps18
  go_wp2_with fail
  refine (CM.out _).mono ?_
  rintro e w1 ⟨rfl, rfl⟩
  go_wp2_with fail
  refine (HD.out _).mono ?_
  rintro e w1 ⟨rfl, rfl⟩
  go_wp2_with fail
  exact bodyPost_ret (v := .tuple #[.agg #[.bool false, .slice none 0 0], .bool false]) (by simp [results, Tryd.results18, go_sem]) rfl ⟨rfl, below_alloc _ _⟩

theorem read_no (s : ByteArray) (w : World) (h : ¬ okT s.data.toList) :
    Calls Tryd.prog 18 #[.string s] w fun e w' => e = .returned (.tuple #[.agg #[.bool false, .slice none 0 0], .bool false]) ∧ Below w.heap.size w w' := by
  by_cases h1 : canon (digT s.data.toList) ∧ (digT s.data.toList).length ≤ 2500
  · by_cases h2 : negT s.data.toList = true ∧ digT s.data.toList = [48]
    · exact read_minus0 s w h2.1 h2.2
    · exact absurd ⟨h1, h2⟩ h
  · exact read_nodec s w h1

set_option maxHeartbeats 400000 in
set_option maxRecDepth 100000 in
theorem read_yes0 (s d : ByteArray) (neg : Bool) (w : World) (hd : d.data.toList = digT s.data.toList) (h1 : neg = negT s.data.toList) (h2 : canon d.data.toList) (h3 : d.size ≤ 2500) (h4 : neg = true → (d.toList == [48]) = false) (z : Int) (hz : neg = decide (z < 0)) (hz0 : z.natAbs = ofD d.data.toList) :
    Calls Tryd.prog 18 #[.string s] w fun e w' => ∃ b A n c, e = .returned (.tuple #[.agg #[.bool b, .slice A n c], .bool (decide ((dig z.natAbs).length ≤ 256))]) ∧ ZV w' (.agg #[.bool b, .slice A n c]) z ∧ Below w.heap.size w w' := by
  have CM := Lib.hid (cut_minus s d neg hd h1)
  have HD := Lib.hid (fun W => decimal_yes d W h2 h3)
  have RD := Lib.hid (fun W => readDigits_any d W h2.2.1 h3)
  have H4 := Lib.hid h4
  have Hz := Lib.hid (And.intro hz hz0)
  clear h1 h2 hd h4 hz hz0
  go_enter Tryd.func18, Tryd.ntmps18
  go_wp2_with fail
  refine (CM.out _).mono ?_
  rintro e w1 ⟨rfl, rfl⟩
  have hR := RB.c1 w false none 0 0 37
  have he := below_alloc w (Obj.cells #[.bool false, .slice none 0 0] 37)
  obtain ⟨W1, hW1⟩ : ∃ W1, W1 = w.alloc (Obj.cells #[.bool false, .slice none 0 0] 37) := ⟨_, rfl⟩
  have hs1 : W1.heap.size = w.heap.size + 1 := by rw [hW1]; simp
  rw [← hW1] at hR he ⊢
  clear hW1
  have HR1 := Lib.hid hR; clear hR
  have HE1 := Lib.hid he; clear he
  go_upto_region 2 with fail
  go_cut [21] (fun a wx => a = .bool false ∧ wx = W1)
  case first =>
    cases neg
    · go_wp2_with fail
      refine (HD.out _).mono ?_
      rintro e w1 ⟨rfl, rfl⟩
      go_wp2_with fail
      go_meet
      exact ⟨rfl, rfl⟩
    · have h5 := H4.out rfl
      go_wp2_with fail
      refine (HD.out _).mono ?_
      rintro e w1 ⟨rfl, rfl⟩
      go_wp2_with fail
      go_meet
      exact ⟨rfl, rfl⟩
  case rest =>
  obtain ⟨rfl, rfl⟩ := hcut
  go_wp2_with fail
  refine (RD.out _).mono ?_
  rintro e w2 ⟨u, rfl, hu, hb2⟩
  obtain ⟨A, n, c, rfl⟩ := hu.slice_
  have hzv : ZV w2 (.agg #[.bool neg, .slice A n c]) z := ZV.mk Hz.out.1 (by rw [Hz.out.2]; exact hu)
  have hz6 := HZ.lit w2 neg A n c 37 hzv
  have hb6 := below_alloc w2 (Obj.cells #[.bool neg, .slice A n c] 37)
  have hr6 := (HR1.out.below hb2 (by omega)).below hb6 (by have := hb2.size; omega)
  have he6 := HE1.out.trans ((hb2.trans (hb6.mono hb2.size)).mono HE1.out.size)
  have HZ6 := Lib.hid hz6
  have HR := Lib.hid hr6
  have HE := Lib.hid he6
  have hs2 := hb2.size
  have hs6 : (w2.alloc (Obj.cells #[.bool neg, .slice A n c] 37)).heap.size = w2.heap.size + 1 := by simp
  clear hzv hz6 hr6 he6 hu hb2 hb6
  go_upto_region 5 with fail
  refine wp_region_noPanic ?_
  refine wp_pool 3 [some 27, some 28, some 29] [] [] [(fun (v : Value) (X : World) => ∃ b A n c, v = .agg #[.bool b, .slice A n c] ∧ ZV X (.agg #[.bool b, .slice A n c]) (z)), (fun (v : Value) (X : World) => ∃ b A n c, v = .agg #[.bool b, .slice A n c] ∧ ZV X (.agg #[.bool b, .slice A n c]) (z)), (fun (v : Value) (_ : World) => v = .bool (decide ((dig z.natAbs).length ≤ 256)))] [noF, noF, noF] (by kernel_rfl) (by kernel_rfl) (by kernel_rfl) (by kernel_rfl) (by kernel_rfl) (by kernel_rfl) (by kernel_rfl) (by kernel_rfl) (fun _ _ _ _ h => h) ⟨(fun _ _ _ e ⟨b, A, n, c, h1, h2⟩ => ⟨b, A, n, c, h1, h2.ext e⟩), (fun _ _ _ e ⟨b, A, n, c, h1, h2⟩ => ⟨b, A, n, c, h1, h2.ext e⟩), Stays.pure _, True.intro⟩ ?steps ?done
  case steps =>
    simp only [List.take_succ_cons, List.take_zero]
    refine Steps.cons (fun (v : Value) (X : World) => ∃ b A n c, v = .agg #[.bool b, .slice A n c] ∧ ZV X (.agg #[.bool b, .slice A n c]) (z)) [] rfl (by kernel_rfl) rfl (by kernel_rfl) (fun y X ex0 hf K hK => ?_) ?_
    · clear hf
      have ex := (Ext.drw (Ext.refl _)).trans ex0
      refine Box.mk ?_
      simp only [fill, Act.put, Nat.reduceAdd, List.setIfInBounds_toArray, List.set_cons_zero, List.set_cons_succ] at hK ⊢
      obtain ⟨bl, Al, nl, cl, k0, k1, kz⟩ := (HZ6.out.ext (by omega) ex)
      go_simp
      exact hK.out _ _ ⟨_, _, _, _, rfl, kz⟩ (Ext.refl _) (fun b hb => by cases hb)
    refine Steps.cons (fun (v : Value) (X : World) => ∃ b A n c, v = .agg #[.bool b, .slice A n c] ∧ ZV X (.agg #[.bool b, .slice A n c]) (z)) [] rfl (by kernel_rfl) rfl (by kernel_rfl) (fun y X ex0 hf K hK => ?_) ?_
    · clear hf
      have ex := (Ext.drw (Ext.refl _)).trans ex0
      refine Box.mk ?_
      simp only [fill, Act.put, Nat.reduceAdd, List.setIfInBounds_toArray, List.set_cons_zero, List.set_cons_succ] at hK ⊢
      obtain ⟨bl, Al, nl, cl, k0, k1, kz⟩ := (HZ6.out.ext (by omega) ex)
      go_simp
      exact hK.out _ _ ⟨_, _, _, _, rfl, kz⟩ (Ext.refl _) (fun b hb => by cases hb)
    refine Steps.cons (fun (v : Value) (_ : World) => v = .bool (decide ((dig z.natAbs).length ≤ 256))) [1] rfl (by kernel_rfl) rfl (by kernel_rfl) (fun y X ex0 hf K hK => ?_) ?_
    · obtain ⟨b1, A1, n1, c1, h1, z1⟩ : ((fun (v : Value) (X : World) => ∃ b A n c, v = .agg #[.bool b, .slice A n c] ∧ ZV X (.agg #[.bool b, .slice A n c]) (z))) (y 1) X := hf.1
      clear hf
      have ex := (Ext.drw (Ext.refl _)).trans ex0
      refine Box.mk ?_
      simp only [fill, Act.put, Nat.reduceAdd, List.setIfInBounds_toArray, List.set_cons_zero, List.set_cons_succ, h1] at hK ⊢
      go_simp
      refine (fits_any z _ _ z1).mono ?_
      rintro e V ⟨rfl, hb⟩
      try go_wp2_with fail
      exact hK.out _ _ rfl hb (fun b hb => by cases hb)
    exact Steps.nil
  case done =>
    intro y X ex hf hlt hsep
    obtain ⟨b0, A0, n0, c0, h0, z0⟩ : ((fun (v : Value) (X : World) => ∃ b A n c, v = .agg #[.bool b, .slice A n c] ∧ ZV X (.agg #[.bool b, .slice A n c]) (z))) (y 0) X := hf.1
    obtain ⟨b1, A1, n1, c1, h1, z1⟩ : ((fun (v : Value) (X : World) => ∃ b A n c, v = .agg #[.bool b, .slice A n c] ∧ ZV X (.agg #[.bool b, .slice A n c]) (z))) (y 1) X := hf.2.1
    have h2 : ((fun (v : Value) (_ : World) => v = .bool (decide ((dig z.natAbs).length ≤ 256)))) (y 2) X := hf.2.2.1
    clear hf
    clear hsep hlt
    refine Box.mk ?_
    simp only [List.drop_succ_cons, List.drop_zero, fill, Act.put, Nat.reduceAdd, List.setIfInBounds_toArray, List.set_cons_zero, List.set_cons_succ, h0, h1, h2]
    clear h0 h1 h2
    have hR7 := HR.out.below ex (by omega)
    have hR8 := Lib.hid hR7
    have kz := z0.rb hR7 (.bool b0) (.slice A0 n0 c0)
    have s0 := hR7.set0 b0 (.slice A0 n0 c0)
    have s1 := hR7.set1 b0 (.slice A0 n0 c0)
    have fin := below_set2 (g := w.heap.size) (i := 0) (j := 1) (HE.out.trans (ex.mono HE.out.size)) (Nat.le_refl _) (.bool b0) (.slice A0 n0 c0)
    have Fin := Lib.hid (And.intro kz fin)
    obtain ⟨a9, A9, n9, c9, k10, k11, k20, k21⟩ := hR7.facts
    clear kz fin ex z0 z1
    go_wp2_with fail
    refine NoPanic.normal ?_
    go_wp2
    exact bodyPost_ret (v := .tuple #[.agg #[.bool b0, .slice A0 n0 c0], .bool (decide ((dig z.natAbs).length ≤ 256))]) (by simp [results, Tryd.results18, go_sem, s0, s1]) rfl ⟨b0, A0, n0, c0, rfl, Fin.out.1, Fin.out.2⟩

end Go.Proofs.YtmlopkkbgpfdnaaDoor
namespace Go.Proofs.YtmlopkkbgpfdnaaDoor
open Go.RowKit

theorem okT_neg {l : List UInt8} (h : okT l) : negT l = decide (numT l < 0) := by
  unfold numT
  cases hn : negT l with
  | false => simp
  | true =>
    have h0 : 0 < ofD (digT l) := by
      refine ofD_pos _ h.1.1.2.1 h.1.1.1 (fun e => ?_)
      have h1 := h.1.1.2.2 e
      refine h.2 ⟨hn, ?_⟩
      match hd : digT l, h1, e with
      | [x], _, e => simp at e; rw [e]
    simp; omega
theorem okT_abs (l : List UInt8) : (numT l).natAbs = ofD (digT l) := by
  unfold numT
  split <;> omega

theorem read_yes (s : ByteArray) (w : World) (h : okT s.data.toList) (z : Int) (hz : z = numT s.data.toList) :
    Calls Tryd.prog 18 #[.string s] w fun e w' => ∃ b A n c, e = .returned (.tuple #[.agg #[.bool b, .slice A n c], .bool (decide ((dig z.natAbs).length ≤ 256))]) ∧ ZV w' (.agg #[.bool b, .slice A n c]) z ∧ Below w.heap.size w w' := by
  subst hz
  refine read_yes0 s ⟨(digT s.data.toList).toArray⟩ (negT s.data.toList) w rfl rfl h.1.1 h.1.2 (fun hn => ?_) _ (okT_neg h) (okT_abs _)
  rw [Bool.eq_false_iff]
  intro e
  have e2 : (⟨(digT s.data.toList).toArray⟩ : ByteArray).toList = digT s.data.toList := by rw [Lib.toList_data]
  rw [e2] at e
  exact h.2 ⟨hn, by simpa using e⟩

set_option maxHeartbeats 400000 in
set_option maxRecDepth 100000 in
theorem parse_no (s : ByteArray) (w : World) (h : ¬ okT s.data.toList) :
    Calls Tryd.prog 8 #[.string s] w fun e w' => e = .returned (.tuple #[.agg #[.bool false, .slice none 0 0], .int .i64 6]) ∧ Below w.heap.size w w' := by
  have RD := Lib.hid (fun W => read_no s W h)
  clear h
  go_enter Tryd.func8, Tryd.ntmps8
  go_wp2_with fail
  have hR := RB.c1 w false none 0 0 24
  have he := below_alloc w (Obj.cells #[.bool false, .slice none 0 0] 24)
  refine (RD.out _).mono ?_
  rintro e w1 ⟨rfl, hb1⟩
  have hR1 := (hR.below hb1 (by simp)).below (below_alloc w1 (Obj.cells #[.bool false, .slice none 0 0] 37)) (by have := hb1.size; simp at this; omega)
  have he1 := he.trans ((hb1.trans ((below_alloc w1 (Obj.cells #[.bool false, .slice none 0 0] 37)).mono hb1.size)).mono he.size)
  obtain ⟨a0, A0, n0, c0, k10, k11, k20, k21⟩ := hR1.facts
  have s0 := hR1.set0 false (.slice none 0 0)
  have s1 := hR1.set1 false (.slice none 0 0)
  have Fin := Lib.hid (below_set2 (g := w.heap.size) (i := 0) (j := 1) he1 (Nat.le_refl _) (.bool false) (.slice none 0 0))
  clear hR1 he1 hR he hb1
  go_wp2
  exact bodyPost_ret (v := .tuple #[.agg #[.bool false, .slice none 0 0], .int .i64 6]) (by simp [results, Tryd.results8, go_sem, s0, s1]) rfl ⟨rfl, Fin.out⟩
set_option maxHeartbeats 400000 in
set_option maxRecDepth 100000 in
theorem parse_big (s : ByteArray) (w : World) (h : okT s.data.toList) (z : Int) (hz : z = numT s.data.toList) (hl : 256 < (dig z.natAbs).length) :
    Calls Tryd.prog 8 #[.string s] w fun e w' => e = .returned (.tuple #[.agg #[.bool false, .slice none 0 0], .int .i64 6]) ∧ Below w.heap.size w w' := by
  have hdl : decide ((dig z.natAbs).length ≤ 256) = false := decide_eq_false (by omega)
  have RD := Lib.hid (fun W => read_yes s W h z hz)
  rw [hdl] at RD
  clear h hz hl hdl
  go_enter Tryd.func8, Tryd.ntmps8
  go_wp2_with fail
  have hR := RB.c1 w false none 0 0 24
  have he := below_alloc w (Obj.cells #[.bool false, .slice none 0 0] 24)
  refine (RD.out _).mono ?_
  rintro e w1 ⟨b3, A3, n3, c3, rfl, hz3, hb1⟩
  clear hz3
  have hR1 := (hR.below hb1 (by simp)).below (below_alloc w1 (Obj.cells #[.bool b3, .slice A3 n3 c3] 37)) (by have := hb1.size; simp at this; omega)
  have he1 := he.trans ((hb1.trans ((below_alloc w1 (Obj.cells #[.bool b3, .slice A3 n3 c3] 37)).mono hb1.size)).mono he.size)
  obtain ⟨a0, A0, n0, c0, k10, k11, k20, k21⟩ := hR1.facts
  have s0 := hR1.set0 false (.slice none 0 0)
  have s1 := hR1.set1 false (.slice none 0 0)
  have Fin := Lib.hid (below_set2 (g := w.heap.size) (i := 0) (j := 1) he1 (Nat.le_refl _) (.bool false) (.slice none 0 0))
  clear hR1 he1 hR he hb1
  go_wp2
  exact bodyPost_ret (v := .tuple #[.agg #[.bool false, .slice none 0 0], .int .i64 6]) (by simp [results, Tryd.results8, go_sem, s0, s1]) rfl ⟨rfl, Fin.out⟩
set_option maxHeartbeats 400000 in
set_option maxRecDepth 100000 in
theorem parse_yes (s : ByteArray) (w : World) (h : okT s.data.toList) (z : Int) (hz : z = numT s.data.toList) (hl : (dig z.natAbs).length ≤ 256) :
    Calls Tryd.prog 8 #[.string s] w fun e w' => ∃ b A n c, e = .returned (.tuple #[.agg #[.bool b, .slice A n c], .int .i64 0]) ∧ ZV w' (.agg #[.bool b, .slice A n c]) z ∧ Below w.heap.size w w' := by
  have hdl : decide ((dig z.natAbs).length ≤ 256) = true := decide_eq_true hl
  have RD := Lib.hid (fun W => read_yes s W h z hz)
  rw [hdl] at RD
  have HL := Lib.hid hl
  clear h hz hl hdl
  go_enter Tryd.func8, Tryd.ntmps8
  go_wp2_with fail
  have hR := RB.c1 w false none 0 0 24
  have he := below_alloc w (Obj.cells #[.bool false, .slice none 0 0] 24)
  refine (RD.out _).mono ?_
  rintro e w1 ⟨b3, A3, n3, c3, rfl, hz3, hb1⟩
  have hz4 := HZ.lit w1 b3 A3 n3 c3 37 hz3
  have hR1 := (hR.below hb1 (by simp)).below (below_alloc w1 (Obj.cells #[.bool b3, .slice A3 n3 c3] 37)) (by have := hb1.size; simp at this; omega)
  have he1 := he.trans ((hb1.trans ((below_alloc w1 (Obj.cells #[.bool b3, .slice A3 n3 c3] 37)).mono hb1.size)).mono he.size)
  obtain ⟨b4, A4, n4, c4, k0, k1, kz⟩ := hz4
  have KZ := Lib.hid kz
  have HR1 := Lib.hid hR1
  have HE1 := Lib.hid he1
  clear hR1 he1 hR he hb1 hz3 kz
  go_wp2_with fail
  refine (intOf_any z _ _ KZ.out (by have := HL.out; omega)).mono ?_
  rintro e w5 ⟨r, rfl, hr, hb5⟩
  obtain ⟨A5, n5, c5, rfl, -, -, -⟩ := hr.open_
  have hR5 := HR1.out.below hb5 (HR1.out.lt)
  have he5 := HE1.out.trans (hb5.mono HE1.out.size)
  obtain ⟨a0, A0, n0, c0, k10, k11, k20, k21⟩ := hR5.facts
  obtain ⟨q, hq⟩ : ∃ q, q = decide (z < 0) := ⟨_, rfl⟩
  rw [← hq] at hr ⊢
  clear hq
  have s0 := hR5.set0 q (.slice A5 n5 c5)
  have s1 := hR5.set1 q (.slice A5 n5 c5)
  have Fin := Lib.hid (And.intro (hr.rb hR5 (.bool q) (.slice A5 n5 c5)) (below_set2 (g := w.heap.size) (i := 0) (j := 1) he5 (Nat.le_refl _) (.bool q) (.slice A5 n5 c5)))
  clear hR5 he5 hr hb5 k0 k1
  go_wp2
  exact bodyPost_ret (v := .tuple #[.agg #[.bool q, .slice A5 n5 c5], .int .i64 0]) (by simp [results, Tryd.results8, go_sem, s0, s1]) rfl ⟨q, A5, n5, c5, rfl, Fin.out.1, Fin.out.2⟩

end Go.Proofs.YtmlopkkbgpfdnaaDoor
namespace Go.Proofs.YtmlopkkbgpfdnaaDoor
open Go.RowKit

end Go.Proofs.YtmlopkkbgpfdnaaDoor
namespace Go.Proofs.YtmlopkkbgpfdnaaDoor
open Go.RowKit

set_option maxHeartbeats 800000 in
set_option maxRecDepth 100000 in
theorem combineMul_no (p q : Bool) (A A' : Option Addr) (n c n' c' : Nat) (l l' : List Nat) (w : World) (hx : Wd w (.slice A n c) l) (hy : Wd w (.slice A' n' c') l') (hno : (vld p l && vld q l') = false) :
    Calls Tryd.prog 34 #[.agg #[.bool p, .slice A n c], .agg #[.bool q, .slice A' n' c'], .func (.func 35) #[] #[]] w fun e w' => e = .returned (.tuple #[.agg #[.bool false, .slice none 0 0], .int .i64 2]) ∧ Below w.heap.size w w' := by
  have Hx := Lib.hid hx; clear hx
  have Hy := Lib.hid hy; clear hy
  have Hno := Lib.hid hno; clear hno
  go_enter Tryd.func34, Tryd.ntmps34
  go_wp2_with fail
  have hb4 := below4 w (Obj.cells #[.bool p, .slice A n c] 24) (Obj.cells #[.bool q, .slice A' n' c'] 24) (Obj.cells #[.bool false, .slice none 0 0] 24) (Obj.cells #[.bool p, .slice A n c, .bool q, .slice A' n' c'] 24)
  have hR3 := (RB.a3 w false none 0 0 24 (Obj.cells #[.bool p, .slice A n c] 24) (Obj.cells #[.bool q, .slice A' n' c'] 24)).alloc (Obj.cells #[.bool p, .slice A n c, .bool q, .slice A' n' c'] 24)
  refine (allValid_two p q A A' n c n' c' l l' w _ _ (by have := heap_alloc_new (((w.alloc (Obj.cells #[.bool p, .slice A n c] 24)).alloc (Obj.cells #[.bool q, .slice A' n' c'] 24)).alloc (Obj.cells #[.bool false, .slice none 0 0] 24)) (Obj.cells #[.bool p, .slice A n c, .bool q, .slice A' n' c'] 24); simpa using this) (Hx.out.below hb4) (Hy.out.below hb4)).mono ?_
  rintro e w1 ⟨rfl, hb1⟩
  rw [Hno.out]
  have hR := hR3.below hb1 (by simp <;> omega)
  obtain ⟨a0, A0, n0, c0, k10, k11, k20, k21⟩ := hR.facts
  have s0 := hR.set0 false (.slice none 0 0)
  have s1 := hR.set1 false (.slice none 0 0)
  have fin := below_set2 (g := w.heap.size + 1 + 1) (i := 0) (j := 1) (hb4.trans (hb1.mono (by simp <;> omega))) (by omega) (.bool false) (.slice none 0 0)
  have Fin := Lib.hid fin; clear fin hb1 hb4 hR hR3
  go_wp2
  exact bodyPost_ret (v := .tuple #[.agg #[.bool false, .slice none 0 0], .int .i64 2]) (by simp [results, Tryd.results34, go_sem, s0, s1]) rfl ⟨rfl, Fin.out⟩
set_option maxHeartbeats 800000 in
set_option maxRecDepth 100000 in
theorem combineMul_yes (x y : Int) (p q : Bool) (A A' : Option Addr) (n c n' c' : Nat) (l l' : List Nat) (w : World) (hx : Wd w (.slice A n c) l) (hy : Wd w (.slice A' n' c') l') (hp : vld p l = true) (hq : vld q l' = true)
    (ex : x = numOf p l) (ey : y = numOf q l') (hfit : (dig (x * y).natAbs).length ≤ 256) :
    Calls Tryd.prog 34 #[.agg #[.bool p, .slice A n c], .agg #[.bool q, .slice A' n' c'], .func (.func 35) #[] #[]] w fun e w' => ∃ b A n c, e = .returned (.tuple #[.agg #[.bool b, .slice A n c], .int .i64 0]) ∧ ZV w' (.agg #[.bool b, .slice A n c]) (x * y) ∧ Below w.heap.size w w' := by
  have zx := vld_zv hx hp
  have zy := vld_zv hy hq
  have lx : (dig x.natAbs).length ≤ 256 := by rw [ex, vld_dig hx.ok hp]; exact vld_len hp
  have ly : (dig y.natAbs).length ≤ 256 := by rw [ey, vld_dig hy.ok hq]; exact vld_len hq
  rw [← ex] at zx
  rw [← ey] at zy
  have hyes : (vld p l && vld q l') = true := by rw [hp, hq]; rfl
  have Hx := Lib.hid hx; clear hx
  have Hy := Lib.hid hy; clear hy
  have Zx := Lib.hid zx; clear zx
  have Zy := Lib.hid zy; clear zy
  have Hyes := Lib.hid hyes; clear hyes hp hq ex ey
  go_enter Tryd.func34, Tryd.ntmps34
  go_wp2_with fail
  have hb4 := below4 w (Obj.cells #[.bool p, .slice A n c] 24) (Obj.cells #[.bool q, .slice A' n' c'] 24) (Obj.cells #[.bool false, .slice none 0 0] 24) (Obj.cells #[.bool p, .slice A n c, .bool q, .slice A' n' c'] 24)
  have hR3 := (RB.a3 w false none 0 0 24 (Obj.cells #[.bool p, .slice A n c] 24) (Obj.cells #[.bool q, .slice A' n' c'] 24)).alloc (Obj.cells #[.bool p, .slice A n c, .bool q, .slice A' n' c'] 24)
  have o10 : ((((w.alloc (Obj.cells #[.bool p, .slice A n c] 24)).alloc (Obj.cells #[.bool q, .slice A' n' c'] 24)).alloc (Obj.cells #[.bool false, .slice none 0 0] 24)).alloc (Obj.cells #[.bool p, .slice A n c, .bool q, .slice A' n' c'] 24)).cell? ⟨w.heap.size, 0, none⟩ = some (.bool p) := by
    rw [World.cell?_alloc_past _ _ _ (by simp <;> omega)]; exact old1 0
  have o11 : ((((w.alloc (Obj.cells #[.bool p, .slice A n c] 24)).alloc (Obj.cells #[.bool q, .slice A' n' c'] 24)).alloc (Obj.cells #[.bool false, .slice none 0 0] 24)).alloc (Obj.cells #[.bool p, .slice A n c, .bool q, .slice A' n' c'] 24)).cell? ⟨w.heap.size, 1, none⟩ = some (.slice A n c) := by
    rw [World.cell?_alloc_past _ _ _ (by simp <;> omega)]; exact old1 1
  have o20 : ((((w.alloc (Obj.cells #[.bool p, .slice A n c] 24)).alloc (Obj.cells #[.bool q, .slice A' n' c'] 24)).alloc (Obj.cells #[.bool false, .slice none 0 0] 24)).alloc (Obj.cells #[.bool p, .slice A n c, .bool q, .slice A' n' c'] 24)).cell? ⟨w.heap.size + 1, 0, none⟩ = some (.bool q) := by
    rw [World.cell?_alloc_past _ _ _ (by simp <;> omega)]; exact old2 0
  have o21 : ((((w.alloc (Obj.cells #[.bool p, .slice A n c] 24)).alloc (Obj.cells #[.bool q, .slice A' n' c'] 24)).alloc (Obj.cells #[.bool false, .slice none 0 0] 24)).alloc (Obj.cells #[.bool p, .slice A n c, .bool q, .slice A' n' c'] 24)).cell? ⟨w.heap.size + 1, 1, none⟩ = some (.slice A' n' c') := by
    rw [World.cell?_alloc_past _ _ _ (by simp <;> omega)]; exact old2 1
  refine (allValid_two p q A A' n c n' c' l l' w _ _ (by have := heap_alloc_new (((w.alloc (Obj.cells #[.bool p, .slice A n c] 24)).alloc (Obj.cells #[.bool q, .slice A' n' c'] 24)).alloc (Obj.cells #[.bool false, .slice none 0 0] 24)) (Obj.cells #[.bool p, .slice A n c, .bool q, .slice A' n' c'] 24); simpa using this) (Hx.out.below hb4) (Hy.out.below hb4)).mono ?_
  rintro e w1 ⟨rfl, hb1⟩
  rw [Hyes.out]
  have z1 : w.heap.size + 1 + 1 + 1 + 1 ≤ w1.heap.size := by have := hb1.size; simpa using this
  have m10 := keepAt hb1 (by simp <;> omega) o10
  have m11 := keepAt hb1 (by simp <;> omega) o11
  have m20 := keepAt hb1 (by simp <;> omega) o20
  have m21 := keepAt hb1 (by simp <;> omega) o21
  have hR1 := hR3.below hb1 (by simp <;> omega)
  have hb0 : Below w.heap.size w w1 := hb4.trans (hb1.mono (by simp <;> omega))
  clear o10 o11 o20 o21 hb4 hb1 hR3
  have Zx1 := Lib.hid (Zx.out.below hb0)
  have Zy1 := Lib.hid (Zy.out.below hb0)
  have Hb0 := Lib.hid hb0; clear hb0
  have HR1 := Lib.hid hR1; clear hR1
  have tk0 : True := trivial
  go_wp2_with fail
  go_region_held3 (fun w' => w'.cell? ⟨w.heap.size, 0, none⟩ = some (.bool p) ∧ w'.cell? ⟨w.heap.size, 1, none⟩ = some (.slice A n c) ∧ w'.cell? ⟨w.heap.size + 1, 0, none⟩ = some (.bool q) ∧ w'.cell? ⟨w.heap.size + 1, 1, none⟩ = some (.slice A' n' c'))
    (first | exact ⟨m10, m11, m20, m21⟩ | (go_split_ands; exact ⟨(far2 (by omega)).trans (by assumption), (far2 (by omega)).trans (by assumption), (far2 (by omega)).trans (by assumption), (far2 (by omega)).trans (by assumption)⟩) | (go_split_ands; exact ⟨keepAt hb2 (by show _ < w1.heap.size; omega) (by assumption), keepAt hb2 (by show _ < w1.heap.size; omega) (by assumption), keepAt hb2 (by show _ < w1.heap.size; omega) (by assumption), keepAt hb2 (by show _ < w1.heap.size; omega) (by assumption)⟩) | (go_split_ands; exact ⟨keepAt hb3 (by omega) (by assumption), keepAt hb3 (by omega) (by assumption), keepAt hb3 (by omega) (by assumption), keepAt hb3 (by omega) (by assumption)⟩) | (go_split_ands; exact ⟨keepAt hb4 (by omega) (by assumption), keepAt hb4 (by omega) (by assumption), keepAt hb4 (by omega) (by assumption), keepAt hb4 (by omega) (by assumption)⟩) | (go_split_ands; exact ⟨keepAt hb5 (by omega) (by assumption), keepAt hb5 (by omega) (by assumption), keepAt hb5 (by omega) (by assumption), keepAt hb5 (by omega) (by assumption)⟩))
    (first | (go_at_call 12; have _t := tk0; refine (wholeOf_any p A n c _).mono ?_; rintro e w2 ⟨rfl, hb2⟩; clear tk0; have tk1 : True := trivial; have z2 : w1.heap.size ≤ w2.heap.size := (undrew hb2).size; have zx2 := Zx1.out.below (undrew hb2); have zy2 := Zy1.out.below (undrew hb2); have hR2 := HR1.out.below (undrew hb2) (by show _ < w1.heap.size; omega)) | (go_at_call 12; have _t := tk1; refine (wholeOf_any q A' n' c' _).mono ?_; rintro e w3 ⟨rfl, hb3⟩; have z3 := hb3.size; have zx3 := zx2.below hb3; have zy3 := zy2.below hb3; have hR3 := hR2.below hb3 (by omega)) | (go_at_call 35; refine (asAgg (timesZ_any x y _ _ _ zx3 zy3 (by omega) (by omega))).mono ?_; rintro e w4 ⟨b4, A4, n4, c4, rfl, hr, hb4⟩; have z4 := hb4.size; have hR4 := hR3.below hb4 (by omega)) | (go_at_call 53; refine (fitInt_yes _ _ _ hr hfit).mono ?_; rintro e w5 ⟨b6, A6, n6, c6, rfl, hr6, hb5⟩; have z5 := hb5.size; have hR := hR4.below hb5 (by omega); obtain ⟨a0, A0, n0, c0, k10, k11, k20, k21⟩ := hR.facts))
  have s0 := hR.set0 b6 (.slice A6 n6 c6)
  have s1 := hR.set1 b6 (.slice A6 n6 c6)
  have fin := And.intro (hr6.rb hR (.bool b6) (.slice A6 n6 c6)) (below_set2 (g := w.heap.size + 1 + 1) (i := 0) (j := 1) ((((Hb0.out.trans ((undrew hb2).mono (by show _ ≤ w1.heap.size; omega))).trans (hb3.mono (by omega))).trans (hb4.mono (by omega))).trans (hb5.mono (by omega))) (by omega) (.bool b6) (.slice A6 n6 c6))
  have Fin := Lib.hid fin; clear fin
  go_wp2
  exact bodyPost_ret (v := .tuple #[.agg #[.bool b6, .slice A6 n6 c6], .int .i64 0]) (by simp [results, Tryd.results34, go_sem, s0, s1]) rfl ⟨b6, A6, n6, c6, rfl, Fin.out.1, Fin.out.2⟩
set_option maxHeartbeats 800000 in
set_option maxRecDepth 100000 in
theorem combineMul_big (x y : Int) (p q : Bool) (A A' : Option Addr) (n c n' c' : Nat) (l l' : List Nat) (w : World) (hx : Wd w (.slice A n c) l) (hy : Wd w (.slice A' n' c') l') (hp : vld p l = true) (hq : vld q l' = true)
    (ex : x = numOf p l) (ey : y = numOf q l') (hfit : 256 < (dig (x * y).natAbs).length) :
    Calls Tryd.prog 34 #[.agg #[.bool p, .slice A n c], .agg #[.bool q, .slice A' n' c'], .func (.func 35) #[] #[]] w fun e w' => e = .returned (.tuple #[.agg #[.bool false, .slice none 0 0], .int .i64 5]) ∧ Below w.heap.size w w' := by
  have zx := vld_zv hx hp
  have zy := vld_zv hy hq
  have lx : (dig x.natAbs).length ≤ 256 := by rw [ex, vld_dig hx.ok hp]; exact vld_len hp
  have ly : (dig y.natAbs).length ≤ 256 := by rw [ey, vld_dig hy.ok hq]; exact vld_len hq
  rw [← ex] at zx
  rw [← ey] at zy
  have hyes : (vld p l && vld q l') = true := by rw [hp, hq]; rfl
  have Hx := Lib.hid hx; clear hx
  have Hy := Lib.hid hy; clear hy
  have Zx := Lib.hid zx; clear zx
  have Zy := Lib.hid zy; clear zy
  have Hyes := Lib.hid hyes; clear hyes hp hq ex ey
  go_enter Tryd.func34, Tryd.ntmps34
  go_wp2_with fail
  have hb4 := below4 w (Obj.cells #[.bool p, .slice A n c] 24) (Obj.cells #[.bool q, .slice A' n' c'] 24) (Obj.cells #[.bool false, .slice none 0 0] 24) (Obj.cells #[.bool p, .slice A n c, .bool q, .slice A' n' c'] 24)
  have hR3 := (RB.a3 w false none 0 0 24 (Obj.cells #[.bool p, .slice A n c] 24) (Obj.cells #[.bool q, .slice A' n' c'] 24)).alloc (Obj.cells #[.bool p, .slice A n c, .bool q, .slice A' n' c'] 24)
  have o10 : ((((w.alloc (Obj.cells #[.bool p, .slice A n c] 24)).alloc (Obj.cells #[.bool q, .slice A' n' c'] 24)).alloc (Obj.cells #[.bool false, .slice none 0 0] 24)).alloc (Obj.cells #[.bool p, .slice A n c, .bool q, .slice A' n' c'] 24)).cell? ⟨w.heap.size, 0, none⟩ = some (.bool p) := by
    rw [World.cell?_alloc_past _ _ _ (by simp <;> omega)]; exact old1 0
  have o11 : ((((w.alloc (Obj.cells #[.bool p, .slice A n c] 24)).alloc (Obj.cells #[.bool q, .slice A' n' c'] 24)).alloc (Obj.cells #[.bool false, .slice none 0 0] 24)).alloc (Obj.cells #[.bool p, .slice A n c, .bool q, .slice A' n' c'] 24)).cell? ⟨w.heap.size, 1, none⟩ = some (.slice A n c) := by
    rw [World.cell?_alloc_past _ _ _ (by simp <;> omega)]; exact old1 1
  have o20 : ((((w.alloc (Obj.cells #[.bool p, .slice A n c] 24)).alloc (Obj.cells #[.bool q, .slice A' n' c'] 24)).alloc (Obj.cells #[.bool false, .slice none 0 0] 24)).alloc (Obj.cells #[.bool p, .slice A n c, .bool q, .slice A' n' c'] 24)).cell? ⟨w.heap.size + 1, 0, none⟩ = some (.bool q) := by
    rw [World.cell?_alloc_past _ _ _ (by simp <;> omega)]; exact old2 0
  have o21 : ((((w.alloc (Obj.cells #[.bool p, .slice A n c] 24)).alloc (Obj.cells #[.bool q, .slice A' n' c'] 24)).alloc (Obj.cells #[.bool false, .slice none 0 0] 24)).alloc (Obj.cells #[.bool p, .slice A n c, .bool q, .slice A' n' c'] 24)).cell? ⟨w.heap.size + 1, 1, none⟩ = some (.slice A' n' c') := by
    rw [World.cell?_alloc_past _ _ _ (by simp <;> omega)]; exact old2 1
  refine (allValid_two p q A A' n c n' c' l l' w _ _ (by have := heap_alloc_new (((w.alloc (Obj.cells #[.bool p, .slice A n c] 24)).alloc (Obj.cells #[.bool q, .slice A' n' c'] 24)).alloc (Obj.cells #[.bool false, .slice none 0 0] 24)) (Obj.cells #[.bool p, .slice A n c, .bool q, .slice A' n' c'] 24); simpa using this) (Hx.out.below hb4) (Hy.out.below hb4)).mono ?_
  rintro e w1 ⟨rfl, hb1⟩
  rw [Hyes.out]
  have z1 : w.heap.size + 1 + 1 + 1 + 1 ≤ w1.heap.size := by have := hb1.size; simpa using this
  have m10 := keepAt hb1 (by simp <;> omega) o10
  have m11 := keepAt hb1 (by simp <;> omega) o11
  have m20 := keepAt hb1 (by simp <;> omega) o20
  have m21 := keepAt hb1 (by simp <;> omega) o21
  have hR1 := hR3.below hb1 (by simp <;> omega)
  have hb0 : Below w.heap.size w w1 := hb4.trans (hb1.mono (by simp <;> omega))
  clear o10 o11 o20 o21 hb4 hb1 hR3
  have Zx1 := Lib.hid (Zx.out.below hb0)
  have Zy1 := Lib.hid (Zy.out.below hb0)
  have Hb0 := Lib.hid hb0; clear hb0
  have HR1 := Lib.hid hR1; clear hR1
  have tk0 : True := trivial
  go_wp2_with fail
  go_region_held3 (fun w' => w'.cell? ⟨w.heap.size, 0, none⟩ = some (.bool p) ∧ w'.cell? ⟨w.heap.size, 1, none⟩ = some (.slice A n c) ∧ w'.cell? ⟨w.heap.size + 1, 0, none⟩ = some (.bool q) ∧ w'.cell? ⟨w.heap.size + 1, 1, none⟩ = some (.slice A' n' c'))
    (first | exact ⟨m10, m11, m20, m21⟩ | (go_split_ands; exact ⟨(far2 (by omega)).trans (by assumption), (far2 (by omega)).trans (by assumption), (far2 (by omega)).trans (by assumption), (far2 (by omega)).trans (by assumption)⟩) | (go_split_ands; exact ⟨keepAt hb2 (by show _ < w1.heap.size; omega) (by assumption), keepAt hb2 (by show _ < w1.heap.size; omega) (by assumption), keepAt hb2 (by show _ < w1.heap.size; omega) (by assumption), keepAt hb2 (by show _ < w1.heap.size; omega) (by assumption)⟩) | (go_split_ands; exact ⟨keepAt hb3 (by omega) (by assumption), keepAt hb3 (by omega) (by assumption), keepAt hb3 (by omega) (by assumption), keepAt hb3 (by omega) (by assumption)⟩) | (go_split_ands; exact ⟨keepAt hb4 (by omega) (by assumption), keepAt hb4 (by omega) (by assumption), keepAt hb4 (by omega) (by assumption), keepAt hb4 (by omega) (by assumption)⟩) | (go_split_ands; exact ⟨keepAt hb5 (by omega) (by assumption), keepAt hb5 (by omega) (by assumption), keepAt hb5 (by omega) (by assumption), keepAt hb5 (by omega) (by assumption)⟩))
    (first | (go_at_call 12; have _t := tk0; refine (wholeOf_any p A n c _).mono ?_; rintro e w2 ⟨rfl, hb2⟩; clear tk0; have tk1 : True := trivial; have z2 : w1.heap.size ≤ w2.heap.size := (undrew hb2).size; have zx2 := Zx1.out.below (undrew hb2); have zy2 := Zy1.out.below (undrew hb2); have hR2 := HR1.out.below (undrew hb2) (by show _ < w1.heap.size; omega)) | (go_at_call 12; have _t := tk1; refine (wholeOf_any q A' n' c' _).mono ?_; rintro e w3 ⟨rfl, hb3⟩; have z3 := hb3.size; have zx3 := zx2.below hb3; have zy3 := zy2.below hb3; have hR3 := hR2.below hb3 (by omega)) | (go_at_call 35; refine (asAgg (timesZ_any x y _ _ _ zx3 zy3 (by omega) (by omega))).mono ?_; rintro e w4 ⟨b4, A4, n4, c4, rfl, hr, hb4⟩; have z4 := hb4.size; have hR4 := hR3.below hb4 (by omega)) | (go_at_call 53; refine (fitInt_no _ _ _ hr hfit).mono ?_; rintro e w5 ⟨rfl, hb5⟩; have z5 := hb5.size; have hR := hR4.below hb5 (by omega); obtain ⟨a0, A0, n0, c0, k10, k11, k20, k21⟩ := hR.facts))
  have s0 := hR.set0 false (.slice none 0 0)
  have s1 := hR.set1 false (.slice none 0 0)
  have fin := (below_set2 (g := w.heap.size + 1 + 1) (i := 0) (j := 1) ((((Hb0.out.trans ((undrew hb2).mono (by show _ ≤ w1.heap.size; omega))).trans (hb3.mono (by omega))).trans (hb4.mono (by omega))).trans (hb5.mono (by omega))) (by omega) (.bool false) (.slice none 0 0))
  have Fin := Lib.hid fin; clear fin
  go_wp2
  exact bodyPost_ret (v := .tuple #[.agg #[.bool false, .slice none 0 0], .int .i64 5]) (by simp [results, Tryd.results34, go_sem, s0, s1]) rfl ⟨rfl, Fin.out⟩

end Go.Proofs.YtmlopkkbgpfdnaaDoor
