/- Walks: the law ExactRoots, right arguments. -/
import Derived.Test.YtmlopkkbgpfdnaaL6
import Derived.Test.YtmlopkkbgpfdnaaR9
import Derived.Test.YtmlopkkbgpfdnaaR7
import Derived.Test.YtmlopkkbgpfdnaaR8
namespace Go.Proofs.Ytmlopkkbgpfdnaa
open Go.RowKit

theorem vld_of_digR {z : Int} (hl : (dig z.natAbs).length ≤ 256) : vld (decide (z < 0)) (dig z.natAbs) = true := by
  unfold vld
  split
  · rename_i h0
    have : z.natAbs = 0 := dig_eq_nil.1 (List.eq_nil_of_length_eq_zero h0)
    simp; omega
  · rename_i h0
    have hn := norm_dig z.natAbs
    unfold Norm at hn
    rw [List.getLast?_eq_getElem?] at hn
    have hlt : (dig z.natAbs).length - 1 < (dig z.natAbs).length := by omega
    rw [List.getElem?_eq_getElem hlt] at hn
    simp only [Bool.and_eq_true, decide_eq_true_eq, Bool.not_eq_true', decide_eq_false_iff_not]
    refine ⟨hl, ?_⟩
    rw [List.getD_eq_getElem?_getD, List.getElem?_eq_getElem hlt]
    simpa using hn
theorem vld_nat {x : Nat} (hl : (dig x).length ≤ 256) : vld false (dig x) = true := by
  have := vld_of_digR (z := (x : Int)) (by rwa [Int.natAbs_natCast])
  rw [Int.natAbs_natCast] at this
  rwa [show decide ((x : Int) < 0) = false by simp] at this
theorem root_len {x k : Nat} {l : List Nat} (ho : Ok l) (hv : vld false l = true) (h : x ^ k ≤ val l) (hk : 1 ≤ k) : (dig x).length ≤ 256 := by
  have h1 : x ≤ val l := by
    refine Nat.le_trans ?_ h
    rcases Nat.eq_zero_or_pos x with h | h
    · rw [h]; exact Nat.zero_le _
    · calc x = x ^ 1 := (Nat.pow_one x).symm
        _ ≤ x ^ k := Nat.pow_le_pow_right h hk
  exact Nat.le_trans (dig_len_mono h1) (by rw [dig_val ho (vld_norm hv)]; exact vld_len hv)

theorem len_powN {y m : Nat} (h : (dig y).length ≤ m) : ∀ j : Nat, (dig (y ^ j)).length ≤ m * j + 1
  | 0 => by
    rw [Nat.pow_zero, dig_pos (by omega)]
    simp [dig_zero]
  | j + 1 => by
    rw [Nat.pow_succ]
    have := len_mulN (len_powN h j) h
    rw [Nat.mul_succ]
    omega

theorem wp_split {S : World → Prop} {P : Program} {Q : Exit → Act → World → Prop} {id : Nat} {a : Act} {w : World} {l : List Oper} (n : Nat) (hm : P.follows .mixedOrders = true)
    (hB : splitB .any l.toArray n = true) (hS : S w.drew)
    (h : wpAnyH P .any (l.take n).toArray (CutQ P l.toArray Q (l.drop n)) S n (Array.replicate n false) a w.drew) : (Code.region id l.toArray true).wp P Q a w :=
  wp_region_split n hm hB hS (fun _ => h)
theorem take_at {P : Program} {md : Region.Mode} {ops : Array Oper} {Q : Exit → Act → World → Prop} {S : World → Prop} (i : Nat) (d : Option Tmp) (v : Value) {oi : Oper} {fuel : Nat} {listed : Array Bool} {a : Act} {w : World} (hi : ops[i]? = some oi) (hd : oi.dst = d)
    (hs : Region.noSelect ops = true) (hf : Region.free md ops listed i = true) (hr : (Region.ready md ops listed).contains i = true)
    (hQ : ∀ c a w, Q (.panic c) (a.put oi.dst v) w → Q (.panic c) a w) (hy : YieldsIf P ops S oi v a) (hS : S w)
    (h : wpAnyH P md ops Q S fuel (listed.setIfInBounds i true) (a.put d v) w) : wpAnyH P md ops Q S (fuel + 1) listed a w :=
  wpAnyH_take hi hs hf hr hQ hy hS (by rw [hd]; exact h)
theorem cut_normal {P : Program} {ops : Array Oper} {Q : Exit → Act → World → Prop} {l : List Oper} {a : Act} {w : World} (h : wpList P ops Q l a w) : CutQ P ops Q l .normal a w := h
theorem zv_l {W : World} {A : Option Addr} {n c : Nat} {l : List Nat} (hd : dig (val l) = l) (h : Wd W (.slice A n c) l) : ZV W (.agg #[.bool false, .slice A n c]) ((val l : Nat) : Int) :=
  ZV.mk (by simp) (by rw [Int.natAbs_natCast, hd]; exact h)
theorem pow_most {x i k a : Nat} (h : i + 1 ≤ k) (hx : x ^ k ≤ a) : x ^ (i + 1) ≤ a := by
  rcases Nat.eq_zero_or_pos x with h0 | h0
  · subst h0; rw [Nat.zero_pow (by omega)]; exact Nat.zero_le _
  · exact Nat.le_trans (Nat.pow_le_pow_right h0 h) hx
theorem sign_not {t : Int} (h : t ≤ 0) : decide (0 < t.sign) = false := by
  rcases (by omega : t < 0 ∨ t = 0) with h | h
  · rw [Int.sign_eq_neg_one_of_neg h]; decide
  · subst h; decide
theorem sign_yes {t : Int} (h : 0 < t) : decide (0 < t.sign) = true := by
  rw [Int.sign_eq_one_of_pos h]; decide
theorem zv_of {W : World} {A : Option Addr} {n c x : Nat} (h : Wd W (.slice A n c) (dig x)) : ZV W (.agg #[.bool false, .slice A n c]) (x : Int) :=
  ZV.mk (by simp) (by rw [Int.natAbs_natCast]; exact h)

/-- what the loop holds -/
structure RootsAt (w wr : World) (g2 g5 g7 g8 : Nat) (A : Option Addr) (n c : Nat) (l : List Nat) (A1 : Option Addr) (n1 c1 x k j : Nat) : Prop where
  a : HW wr g2 false A n c l
  r : HW wr g5 false A1 n1 c1 (dig x)
  lo : HZ wr g7 ((x ^ j : Nat) : Int)
  hi : HZ wr g8 (((x + 1) ^ j : Nat) : Int)
  r7 : RB wr g7
  r8 : RB wr g8
  b : Below w.heap.size w wr
  j : j ≤ k

theorem RootsAt.ext {w wr W : World} {g2 g5 g7 g8 : Nat} {A : Option Addr} {n c : Nat} {l : List Nat} {A1 : Option Addr} {n1 c1 x k j : Nat} (h : RootsAt w wr g2 g5 g7 g8 A n c l A1 n1 c1 x k j) (e : Ext wr W) : RootsAt w W g2 g5 g7 g8 A n c l A1 n1 c1 x k j :=
  ⟨h.a.ext e, h.r.ext e, h.lo.ext h.r7.lt e, h.hi.ext h.r8.lt e, h.r7.ext e, h.r8.ext e, h.b.trans (Below.mono e h.b.size), h.j⟩

set_option maxHeartbeats 800000 in
set_option maxRecDepth 100000 in
theorem exactRoots_yes (A : Option Addr) (n c : Nat) (l : List Nat) (k : Nat) (w : World) (hx : Wd w (.slice A n c) l) (hv : vld false l = true) (hk1 : 1 ≤ k) (hk2 : k ≤ 64) :
    Calls Try.prog 10 #[.agg #[.bool false, .slice A n c], .int .i64 (k : Int)] w fun e w' => e = .returned (.bool true) ∧ Below w.heap.size w w' := by
  have hH := HW.new w false A n c l 24 hx
  have hb := below1 w (Obj.cells #[.bool false, .slice A n c] 24)
  have H1 := Lib.hid hH; clear hH hx
  have Hb := Lib.hid hb; clear hb
  have Hdl := Lib.hid (dig_val H1.out.w.ok (vld_norm hv))
  have Hll := Lib.hid (vld_len hv)
  have Hv := Lib.hid hv; clear hv
  have d1 : decide ((k : Int) < 1) = false := by simp; omega
  have d2 : decide ((64 : Int) < k) = false := by simp; omega
  go_enter Try.func10, Try.ntmps10
  go_wp2_with fail
  refine (exactRoot_yes A n c l k _ H1.out.w Hv.out hk1 hk2).mono ?_
  rintro e w1 ⟨x, b, A1, n1, c1, rfl, hz, hxk, hup, hb1⟩
  obtain ⟨hbx, hwx⟩ := hz.words
  have hbf : b = false := by rw [hbx]; simp
  subst hbf
  rw [Int.natAbs_natCast] at hwx
  have hx1 : Ext _ w1 := hb1
  have g1 : w.heap.size + 1 ≤ w1.heap.size := by have := hx1.size; simpa using this
  have x2 : Ext w1 (w1.alloc (Obj.cells #[.bool false, .slice A1 n1 c1] 24)) := (Ext.refl w1).alc _
  have m := (H1.out.ext hx1).ext x2
  have mr := HW.new w1 false A1 n1 c1 (dig x) 24 hwx
  have c0 := m.c0
  have c1' := m.c1
  have c2 := mr.c0
  have c3 := mr.c1
  have hb2 := (Hb.out.trans (Below.mono hx1 Hb.out.size))
  have Hb2 := Lib.hid (hb2.trans (Below.mono x2 hb2.size))
  have M := Lib.hid m
  have MR := Lib.hid mr
  have HX := Lib.hid (And.intro hxk hup)
  have Hvx := Lib.hid (vld_nat (root_len H1.out.w.ok Hv.out hxk hk1))
  have Hlen := Lib.hid (root_len H1.out.w.ok Hv.out hxk hk1)
  clear m mr hb2 x2 hx1 hb1 H1 Hb hz hbx hwx hxk hup
  go_wp2_with fail
  generalize (w1.alloc (Obj.cells #[.bool false, .slice A1 n1 c1] 24)) = W2 at *
  obtain ⟨g5, hg5⟩ : ∃ g, g = w1.heap.size := ⟨_, rfl⟩
  rw [← hg5] at c2 c3 MR ⊢
  have G1 : w.heap.size + 1 ≤ g5 := by omega
  clear hg5 g1
  refine (validR_any false A n c l _ M.out.w).mono ?_
  rintro e W3 ⟨rfl, hb3⟩
  rw [Hv.out]
  have hx3 : Ext W2 W3 := hb3
  have m := M.out.ext hx3
  have mr := MR.out.ext hx3
  have c0 := m.c0
  have c1' := m.c1
  have c2 := mr.c0
  have c3 := mr.c1
  have Hb3 := Lib.hid (Hb2.out.trans (Below.mono hx3 Hb2.out.size))
  have M3 := Lib.hid m
  have MR3 := Lib.hid mr
  clear m mr hx3 hb3 M MR Hb2
  go_wp2_with fail
  refine (validR_any false A1 n1 c1 (dig x) _ MR3.out.w).mono ?_
  rintro e W4 ⟨rfl, hb4⟩
  rw [Hvx.out]
  have hx4 : Ext W3 W4 := hb4
  have m := M3.out.ext hx4
  have mr := MR3.out.ext hx4
  have c0 := m.c0
  have c1' := m.c1
  have c2 := mr.c0
  have c3 := mr.c1
  have Hb4 := Lib.hid (Hb3.out.trans (Below.mono hx4 Hb3.out.size))
  have M4 := Lib.hid m
  have MR4 := Lib.hid mr
  clear m mr hx4 hb4 M3 MR3 Hb3
  go_wp2_with fail
  refine (asAgg (wholeR_any 1 _ (by omega) (by omega))).mono ?_
  rintro e W5 ⟨b7, A7, n7, c7, rfl, hz7, hb5⟩
  have hx5 : Ext W4 W5 := hb5
  have M5 := Lib.hid (M4.out.ext hx5)
  have MR5 := Lib.hid (MR4.out.ext hx5)
  have Hb5 := Lib.hid (Hb4.out.trans (Below.mono hx5 Hb4.out.size))
  have Z7 := Lib.hid hz7
  clear hz7 hb5 hx5 M4 MR4 Hb4 c0 c1' c2 c3
  go_wp2_with fail
  refine (asAgg (wholeR_any 1 _ (by omega) (by omega))).mono ?_
  rintro e W6 ⟨b8, A8, n8, c8, rfl, hz8, hb6⟩
  have hx6 : Ext W5 W6 := hb6
  have hz7 := Z7.out.ext hx6
  obtain ⟨z7, z8⟩ := hz_new W6 b7 A7 n7 c7 b8 A8 n8 c8 34 hz7 hz8
  have r7 := (HW.new W6 b7 A7 n7 c7 _ 34 hz7.words.2).r.alloc (Obj.cells #[.bool b8, .slice A8 n8 c8] 34)
  have r8 := (HW.new (W6.alloc (Obj.cells #[.bool b7, .slice A7 n7 c7] 34)) b8 A8 n8 c8 _ 34 (hz8.words.2.below (below1 _ _))).r
  have x7 : Ext W6 ((W6.alloc (Obj.cells #[.bool b7, .slice A7 n7 c7] 34)).alloc (Obj.cells #[.bool b8, .slice A8 n8 c8] 34)) := ((Ext.refl W6).alc _).alc _
  have m := (M5.out.ext hx6).ext x7
  have mr := (MR5.out.ext hx6).ext x7
  have hb7 := (Hb5.out.trans (Below.mono hx6 Hb5.out.size))
  have hb8 := hb7.trans (Below.mono x7 hb7.size)
  rw [World.size_alloc] at r8
  have g7 : g5 < W6.heap.size := by have := (MR5.out.ext hx6).r.lt; exact this
  have start : RootsAt w ((W6.alloc (Obj.cells #[.bool b7, .slice A7 n7 c7] 34)).alloc (Obj.cells #[.bool b8, .slice A8 n8 c8] 34)) w.heap.size g5 W6.heap.size (W6.heap.size + 1) A n c l A1 n1 c1 x k 0 :=
    ⟨m, mr, by simpa using z7, by simpa using z8, r7, r8, hb8, Nat.zero_le _⟩
  have Start := Lib.hid start
  clear start m mr hb7 hb8 r7 r8 z7 z8 hz7 hz8 x7 hx6 hb6 M5 MR5 Hb5 Z7
  go_wp2_with fail
  clear c0 c1' c2 c3
  obtain ⟨g6, hg6⟩ : ∃ g, g = W6.heap.size := ⟨_, rfl⟩
  rw [← hg6] at Start g7
  try rw [← hg6]
  clear hg6
  obtain ⟨g8, hg8⟩ : ∃ g, g = g6 + 1 := ⟨_, rfl⟩
  rw [← hg8] at Start
  try rw [← hg8]
  have G8 : g6 < g8 := by omega
  clear hg8
  generalize ((W6.alloc (Obj.cells #[.bool b7, .slice A7 n7 c7] 34)).alloc (Obj.cells #[.bool b8, .slice A8 n8 c8] 34)) = W7 at *
  clear c0 c1' c2 c3
  clear Hvx Hv d1 d2
  go_loopw [49] (fun i wr => ∃ j : Nat, i = .int .i64 (j : Int) ∧ RootsAt w wr w.heap.size g5 g6 g8 A n c l A1 n1 c1 x k j) (fun i _ => k - (intOf i).toNat)
  case atStart => exact ⟨0, rfl, Start.out⟩
  case round =>
    obtain ⟨j, rfl, hrel⟩ := hrel
    have HR := Lib.hid hrel
    have hjk := hrel.j
    clear hrel
    by_cases hj : j = k
    · subst hj
      have d1 : decide ((j : Int) < j) = false := by simp
      go_wp2_with fail
      obtain ⟨bh, Ah, nh, ch, h0, h1, hz⟩ := HR.out.hi
      have zl := zv_l Hdl.out HR.out.a.w
      have q20 := HR.out.a.c0
      have q21 := HR.out.a.c1
      have t2 := HR.out.a.r.lt
      have t8 := HR.out.r8.lt
      have hbf := Lib.hid HR.out.b
      have hlt : val l < (x + 1) ^ j := root_unique HX.out.2
      have Lx1 : (dig (x + 1)).length ≤ 257 := len_addN Hlen.out (by rw [dig_pos (by omega)]; simp [dig_zero])
      have Lh : (dig ((((x + 1) ^ j : Nat) : Int)).natAbs).length ≤ 1000000 := by
        rw [Int.natAbs_natCast]; exact Nat.le_trans (len_powN Lx1 j) (by omega)
      have Lz : (dig (((val l : Nat) : Int)).natAbs).length ≤ 1000000 := by
        rw [Int.natAbs_natCast, Hdl.out]; exact Nat.le_trans Hll.out (by omega)
      obtain ⟨sg, hsg⟩ : ∃ sg, sg = ((((x + 1) ^ j : Nat) : Int) - ((val l : Nat) : Int)).sign := ⟨_, rfl⟩
      have d2 : decide (0 < sg) = true := by rw [hsg]; exact sign_yes (by omega)
      have Ho := Lib.hid (fun W (e : Ext wr W) => orderRZ_any _ _ _ _ W (hz.ext e) (zl.ext e) Lh Lz)
      rw [← hsg] at Ho
      clear hsg hlt hz zl Lh Lz Lx1
      refine wp_region_noPanic ?_
      refine wp_region_held_drew (S := fun W => Ext wr W) (by kernel_rfl) (Ext.drew wr) (fun _ => ?_)
      refine wpAnyH_take (i := 0) (v := .agg #[.bool bh, .slice Ah nh ch]) rfl (by kernel_rfl) (by kernel_rfl) (by kernel_rfl) (fun _ _ _ h => h) (Or.inl ⟨by rfl, fun w' hSw => ?_⟩) (Ext.drew wr) ?_
      · have q0 := keepAt hSw t8 h0
        have q1 := keepAt hSw t8 h1
        clear hSw
        go_simp
        all_goals (with_reducible rfl)
      try simp only [Act.put, List.setIfInBounds_toArray, List.set_cons_zero, List.set_cons_succ]
      refine wpAnyH_take (i := 1) (v := .agg #[.bool false, .slice A n c]) rfl (by kernel_rfl) (by kernel_rfl) (by kernel_rfl) (fun _ _ _ h => h) (Or.inl ⟨by rfl, fun w' hSw => ?_⟩) (Ext.drew wr) ?_
      · have q0 := keepAt hSw t2 q20
        have q1 := keepAt hSw t2 q21
        clear hSw
        go_simp
        all_goals (with_reducible rfl)
      try simp only [Act.put, List.setIfInBounds_toArray, List.set_cons_zero, List.set_cons_succ]
      refine wpAnyH_ready (rs := [2]) (by kernel_rfl) (by simp) ?_
      refine AllReadyH.cons rfl (fun K hK => ?_) AllReadyH.nil
      go_simp
      refine (of_any false A n c _).mono ?_
      rintro e u2 ⟨rfl, hd2⟩
      have p2 : Ext wr u2 := (Ext.drew wr).trans hd2
      try go_wp2_with fail
      refine hK.out _ _ p2 (fun _ => ?_)
      clear hK K
      try simp only [Act.put, List.setIfInBounds_toArray, List.set_cons_zero, List.set_cons_succ]
      refine wpAnyH_ready (rs := [3]) (by kernel_rfl) (by simp) ?_
      refine AllReadyH.cons rfl (fun K hK => ?_) AllReadyH.nil
      go_simp
      refine (Ho.out _ p2).mono ?_
      rintro e u3 ⟨rfl, hd3⟩
      have p3 : Ext wr u3 := (p2).trans hd3
      try go_wp2_with fail
      refine hK.out _ _ p3 (fun _ => ?_)
      clear hK K
      try simp only [Act.put, List.setIfInBounds_toArray, List.set_cons_zero, List.set_cons_succ]
      refine wpAnyH_take (i := 4) (v := .bool true) rfl (by kernel_rfl) (by kernel_rfl) (by kernel_rfl) (fun _ _ _ h => h) (Or.inl ⟨by rfl, fun w' hSw => ?_⟩) p3 ?_
      · clear hSw
        go_simp
        all_goals (with_reducible rfl)
      try simp only [Act.put, List.setIfInBounds_toArray, List.set_cons_zero, List.set_cons_succ]
      refine wpAnyH_take (i := 5) (v := .bool true) rfl (by kernel_rfl) (by kernel_rfl) (by kernel_rfl) (fun _ _ _ h => h) (Or.inl ⟨by rfl, fun w' hSw => ?_⟩) p3 ?_
      · clear hSw
        go_simp
        all_goals (with_reducible rfl)
      try simp only [Act.put, List.setIfInBounds_toArray, List.set_cons_zero, List.set_cons_succ]
      refine wpAnyH_ready (rs := [6]) (by kernel_rfl) (by simp) ?_
      refine AllReadyH.cons rfl (fun K hK => ?_) AllReadyH.nil
      go_simp
      refine (awake_any _).mono ?_
      rintro e u6 ⟨rfl, hd6⟩
      have p6 : Ext wr u6 := (p3).trans hd6
      try go_wp2_with fail
      refine hK.out _ _ p6 (fun _ => ?_)
      clear hK K
      try simp only [Act.put, List.setIfInBounds_toArray, List.set_cons_zero, List.set_cons_succ]
      refine take_at 7 (some 74) (.bool true) rfl rfl (by kernel_rfl) (by kernel_rfl) (by kernel_rfl) (fun _ _ _ h => h) (Or.inl ⟨by rfl, fun w' hSw => ?_⟩) p6 ?_
      · clear hSw
        go_simp
        all_goals (with_reducible rfl)
      try simp only [Act.put, List.setIfInBounds_toArray, List.set_cons_zero, List.set_cons_succ]
      refine take_at 8 (some 4) (.bool true) rfl rfl (by kernel_rfl) (by kernel_rfl) (by kernel_rfl) (fun _ _ _ h => h) (Or.inl ⟨by rfl, fun w' hSw => ?_⟩) p6 ?_
      · clear hSw
        go_simp
        all_goals (with_reducible rfl)
      try simp only [Act.put, List.setIfInBounds_toArray, List.set_cons_zero, List.set_cons_succ]
      refine wpAnyH_done (by kernel_rfl) ?_ _
      refine NoPanic.normal ?_
      have HN := Lib.hid p6
      clear p2 p3 p6 hd2 hd3 hd6 h0 h1 q20 q21 Ho
      go_wp2
      go_ret
      exact ⟨rfl, hbf.out.trans (Below.mono HN.out hbf.out.size)⟩
    · have d1 : decide ((j : Int) < k) = true := by simp; omega
      go_wp2_with fail
      obtain ⟨bl, Al, nl, cl, l0, l1, lz⟩ := HR.out.lo
      obtain ⟨bh, Ah, nh, ch, h0, h1, hz⟩ := HR.out.hi
      have zr := zv_of HR.out.r.w
      have q50 := HR.out.r.c0
      have q51 := HR.out.r.c1
      have t5 := HR.out.r.r.lt
      have t7 := HR.out.r7.lt
      have t8 := HR.out.r8.lt
      have Lr : (dig ((x : Int)).natAbs).length ≤ 1000000 := by rw [Int.natAbs_natCast]; exact Nat.le_trans Hlen.out (by omega)
      have Ll : (dig (((x ^ j : Nat) : Int)).natAbs).length ≤ 1000000 := by
        rw [Int.natAbs_natCast]; exact Nat.le_trans (len_powN Hlen.out j) (by omega)
      have Lx1 : (dig ((x : Int) + 1).natAbs).length ≤ 257 := by
        rw [show ((x : Int) + 1).natAbs = x + 1 by omega]
        exact len_addN Hlen.out (by rw [dig_pos (by omega)]; simp [dig_zero])
      have Lh : (dig ((((x + 1) ^ j : Nat) : Int)).natAbs).length ≤ 1000000 := by
        rw [Int.natAbs_natCast]
        rw [show ((x : Int) + 1).natAbs = x + 1 by omega] at Lx1
        exact Nat.le_trans (len_powN Lx1 j) (by omega)
      have L1 : (dig ((1 : Int)).natAbs).length ≤ 1000000 := by
        rw [show ((1 : Int)).natAbs = 1 by rfl, dig_pos (by omega)]; simp [dig_zero]
      refine wp_region_noPanic ?_
      refine wp_split (S := fun W => Ext wr W) 10 (by kernel_rfl) (by kernel_rfl) (Ext.drew wr) ?_
      simp only [List.take_succ_cons, List.take_zero, List.drop_succ_cons, List.drop_zero]
      refine wpAnyH_take (i := 0) (v := .agg #[.bool bl, .slice Al nl cl]) rfl (by kernel_rfl) (by kernel_rfl) (by kernel_rfl) (fun _ _ _ h => h) (Or.inl ⟨by rfl, fun w' hSw => ?_⟩) (Ext.drew wr) ?_
      · have q0 := keepAt hSw t7 l0
        have q1 := keepAt hSw t7 l1
        clear hSw
        go_simp
        all_goals (with_reducible rfl)
      try simp only [Act.put, List.setIfInBounds_toArray, List.set_cons_zero, List.set_cons_succ]
      refine wpAnyH_take (i := 1) (v := .agg #[.bool false, .slice A1 n1 c1]) rfl (by kernel_rfl) (by kernel_rfl) (by kernel_rfl) (fun _ _ _ h => h) (Or.inl ⟨by rfl, fun w' hSw => ?_⟩) (Ext.drew wr) ?_
      · have q0 := keepAt hSw t5 q50
        have q1 := keepAt hSw t5 q51
        clear hSw
        go_simp
        all_goals (with_reducible rfl)
      try simp only [Act.put, List.setIfInBounds_toArray, List.set_cons_zero, List.set_cons_succ]
      refine wpAnyH_take (i := 4) (v := .agg #[.bool bh, .slice Ah nh ch]) rfl (by kernel_rfl) (by kernel_rfl) (by kernel_rfl) (fun _ _ _ h => h) (Or.inl ⟨by rfl, fun w' hSw => ?_⟩) (Ext.drew wr) ?_
      · have q0 := keepAt hSw t8 h0
        have q1 := keepAt hSw t8 h1
        clear hSw
        go_simp
        all_goals (with_reducible rfl)
      try simp only [Act.put, List.setIfInBounds_toArray, List.set_cons_zero, List.set_cons_succ]
      refine wpAnyH_take (i := 5) (v := .agg #[.bool false, .slice A1 n1 c1]) rfl (by kernel_rfl) (by kernel_rfl) (by kernel_rfl) (fun _ _ _ h => h) (Or.inl ⟨by rfl, fun w' hSw => ?_⟩) (Ext.drew wr) ?_
      · have q0 := keepAt hSw t5 q50
        have q1 := keepAt hSw t5 q51
        clear hSw
        go_simp
        all_goals (with_reducible rfl)
      try simp only [Act.put, List.setIfInBounds_toArray, List.set_cons_zero, List.set_cons_succ]
      refine wpAnyH_ready (rs := [2]) (by kernel_rfl) (by simp) ?_
      refine AllReadyH.cons rfl (fun K hK => ?_) AllReadyH.nil
      go_simp
      refine (of_any false A1 n1 c1 _).mono ?_
      rintro e v2 ⟨rfl, hb2⟩
      have e2 : Ext wr v2 := (Ext.drew wr).trans hb2
      try go_wp2_with fail
      refine hK.out _ _ e2 (fun _ => ?_)
      clear hK K
      try simp only [Act.put, List.setIfInBounds_toArray, List.set_cons_zero, List.set_cons_succ]
      refine wpAnyH_ready (rs := [3]) (by kernel_rfl) (by simp) ?_
      refine AllReadyH.cons rfl (fun K hK => ?_) AllReadyH.nil
      go_simp
      refine (asAgg (timesRZ_any _ _ _ _ _ (lz.ext e2) (zr.ext e2) Ll Lr)).mono ?_
      rintro e v3 ⟨b3, A3, n3, c3, rfl, z3, hb3⟩
      have e3 : Ext wr v3 := (e2).trans hb3
      try go_wp2_with fail
      refine hK.out _ _ e3 (fun _ => ?_)
      clear hK K
      try simp only [Act.put, List.setIfInBounds_toArray, List.set_cons_zero, List.set_cons_succ]
      refine wpAnyH_ready (rs := [6]) (by kernel_rfl) (by simp) ?_
      refine AllReadyH.cons rfl (fun K hK => ?_) AllReadyH.nil
      go_simp
      refine (of_any false A1 n1 c1 _).mono ?_
      rintro e v6 ⟨rfl, hb6⟩
      have e6 : Ext wr v6 := (e3).trans hb6
      try go_wp2_with fail
      refine hK.out _ _ e6 (fun _ => ?_)
      clear hK K
      try simp only [Act.put, List.setIfInBounds_toArray, List.set_cons_zero, List.set_cons_succ]
      refine wpAnyH_ready (rs := [7]) (by kernel_rfl) (by simp) ?_
      refine AllReadyH.cons rfl (fun K hK => ?_) AllReadyH.nil
      go_simp
      refine (asAgg (wholeR_any 1 _ (by omega) (by omega))).mono ?_
      rintro e v7 ⟨b7', A7', n7', c7', rfl, z7, hb7⟩
      have e7 : Ext wr v7 := (e6).trans hb7
      try go_wp2_with fail
      refine hK.out _ _ e7 (fun _ => ?_)
      clear hK K
      try simp only [Act.put, List.setIfInBounds_toArray, List.set_cons_zero, List.set_cons_succ]
      refine wpAnyH_ready (rs := [8]) (by kernel_rfl) (by simp) ?_
      refine AllReadyH.cons rfl (fun K hK => ?_) AllReadyH.nil
      go_simp
      refine (asAgg (plusRZ_any _ _ _ _ _ (zr.ext e7) z7 Lr L1)).mono ?_
      rintro e v8 ⟨b9, A9, n9, c9, rfl, z9, hb8⟩
      have e8 : Ext wr v8 := (e7).trans hb8
      try go_wp2_with fail
      refine hK.out _ _ e8 (fun _ => ?_)
      clear hK K
      try simp only [Act.put, List.setIfInBounds_toArray, List.set_cons_zero, List.set_cons_succ]
      refine wpAnyH_ready (rs := [9]) (by kernel_rfl) (by simp) ?_
      refine AllReadyH.cons rfl (fun K hK => ?_) AllReadyH.nil
      go_simp
      refine (asAgg (timesRZ_any _ _ _ _ _ (hz.ext e8) z9 Lh (Nat.le_trans Lx1 (by omega)))).mono ?_
      rintro e v9 ⟨b10, A10, n10, c10, rfl, z10, hb9⟩
      have e9 : Ext wr v9 := (e8).trans hb9
      try go_wp2_with fail
      refine hK.out _ _ e9 (fun _ => ?_)
      clear hK K
      try simp only [Act.put, List.setIfInBounds_toArray, List.set_cons_zero, List.set_cons_succ]
      refine wpAnyH_done (by kernel_rfl) ?_ _
      refine cut_normal ?_
      have r7 := HR.out.r7.ext e9
      have r8 := HR.out.r8.ext e9
      have za := ((((z3.ext hb6).ext hb7).ext hb8).ext hb9)
      have r7' := r7.set b3 A3 n3 c3
      have r8' := r8.far r7 (by omega) (.bool b3) (.slice A3 n3 c3)
      obtain ⟨_, _, _, _, f0, f1, f2, f3⟩ := r7.facts
      obtain ⟨_, _, _, _, f4, f5, f6, f7⟩ := r8'.facts
      have y7 := (HZ.put r7 za).far r8' (by omega) (.bool b10) (.slice A10 n10 c10)
      have y8 := HZ.put r8' (z10.rb r7 (.bool b3) (.slice A3 n3 c3))
      have ee : Ext wr ((((v9.setCell ⟨g6, 0, none⟩ (.bool b3)).setCell ⟨g6, 1, none⟩ (.slice A3 n3 c3)).setCell ⟨g8, 0, none⟩ (.bool b10)).setCell ⟨g8, 1, none⟩ (.slice A10 n10 c10)) → True := fun _ => trivial
      have ma := ((HR.out.a.ext e9).far r7 (by omega) (.bool b3) (.slice A3 n3 c3)).far r8' (by omega) (.bool b10) (.slice A10 n10 c10)
      have mr := ((HR.out.r.ext e9).far r7 (by omega) (.bool b3) (.slice A3 n3 c3)).far r8' (by omega) (.bool b10) (.slice A10 n10 c10)
      have s7 := r7'.far r8' (by omega) (.bool b10) (.slice A10 n10 c10)
      have s8 := r8'.set b10 A10 n10 c10
      have hb9' := HR.out.b.trans (Below.mono e9 HR.out.b.size)
      have hbf := below_set2 (g := g8) (i := 0) (j := 1) (below_set2 (g := g6) (i := 0) (j := 1) hb9' (by omega) (.bool b3) (.slice A3 n3 c3)) (by omega) (.bool b10) (.slice A10 n10 c10)
      clear ee
      have Y := Lib.hid (And.intro y7 (And.intro y8 (And.intro ma (And.intro mr (And.intro s7 (And.intro s8 hbf))))))
      clear y7 y8 ma mr s7 s8 hbf hb9' r7' r8' r7 r8 za z3 z7 z9 z10 lz hz zr l0 l1 h0 h1 q50 q51 e2 e3 e6 e7 e8 e9 hb2 hb3 hb6 hb7 hb8 hb9
      go_wp2_with fail
      refine NoPanic.normal ?_
      obtain ⟨y7, y8, ma, mr, s7, s8, hbf⟩ := Y.out
      clear Y f0 f1 f2 f3 f4 f5 f6 f7
      generalize ((((v9.setCell ⟨g6, 0, none⟩ (.bool b3)).setCell ⟨g6, 1, none⟩ (.slice A3 n3 c3)).setCell ⟨g8, 0, none⟩ (.bool b10)).setCell ⟨g8, 1, none⟩ (.slice A10 n10 c10)) = W9 at *
      have y7' : HZ W9 g6 ((x ^ (j + 1) : Nat) : Int) := by rw [Nat.pow_succ, Int.natCast_mul]; exact y7
      have y8' : HZ W9 g8 (((x + 1) ^ (j + 1) : Nat) : Int) := by rw [Nat.pow_succ, Int.natCast_mul]; exact y8
      have N := Lib.hid (RootsAt.mk (w := w) (k := k) ma mr y7' y8' s7 s8 hbf (by omega))
      obtain ⟨b11, A11, n11, c11, l0, l1, lz⟩ := y7'
      have zl := zv_l Hdl.out ma.w
      have q20 := ma.c0
      have q21 := ma.c1
      have t2 := ma.r.lt
      have t7 := s7.lt
      have hle : x ^ (j + 1) ≤ val l := pow_most (by omega) HX.out.1
      have Ll : (dig (((x ^ (j + 1) : Nat) : Int)).natAbs).length ≤ 1000000 := by
        rw [Int.natAbs_natCast]; exact Nat.le_trans (len_powN Hlen.out (j + 1)) (by omega)
      have Lz : (dig (((val l : Nat) : Int)).natAbs).length ≤ 1000000 := by
        rw [Int.natAbs_natCast, Hdl.out]; exact Nat.le_trans Hll.out (by omega)
      obtain ⟨sg, hsg⟩ : ∃ sg, sg = (((x ^ (j + 1) : Nat) : Int) - ((val l : Nat) : Int)).sign := ⟨_, rfl⟩
      have d2 : decide (0 < sg) = false := by rw [hsg]; exact sign_not (by omega)
      have Ho := Lib.hid (fun W (e : Ext W9 W) => orderRZ_any _ _ _ _ W (lz.ext e) (zl.ext e) Ll Lz)
      rw [← hsg] at Ho
      clear hsg hle y7 y8 ma mr y8' s7 s8 hbf lz zl Ll Lz Lr Lx1 Lh L1
      go_wp2_with fail
      refine wp_region_noPanic ?_
      refine wp_region_held_drew (S := fun W => Ext W9 W) (by kernel_rfl) (Ext.drew W9) (fun _ => ?_)
      refine wpAnyH_take (i := 0) (v := .agg #[.bool b11, .slice A11 n11 c11]) rfl (by kernel_rfl) (by kernel_rfl) (by kernel_rfl) (fun _ _ _ h => h) (Or.inl ⟨by rfl, fun w' hSw => ?_⟩) (Ext.drew W9) ?_
      · have q0 := keepAt hSw t7 l0
        have q1 := keepAt hSw t7 l1
        clear hSw
        go_simp
        all_goals (with_reducible rfl)
      try simp only [Act.put, List.setIfInBounds_toArray, List.set_cons_zero, List.set_cons_succ]
      refine wpAnyH_take (i := 1) (v := .agg #[.bool false, .slice A n c]) rfl (by kernel_rfl) (by kernel_rfl) (by kernel_rfl) (fun _ _ _ h => h) (Or.inl ⟨by rfl, fun w' hSw => ?_⟩) (Ext.drew W9) ?_
      · have q0 := keepAt hSw t2 q20
        have q1 := keepAt hSw t2 q21
        clear hSw
        go_simp
        all_goals (with_reducible rfl)
      try simp only [Act.put, List.setIfInBounds_toArray, List.set_cons_zero, List.set_cons_succ]
      refine wpAnyH_ready (rs := [2]) (by kernel_rfl) (by simp) ?_
      refine AllReadyH.cons rfl (fun K hK => ?_) AllReadyH.nil
      go_simp
      refine (of_any false A n c _).mono ?_
      rintro e u2 ⟨rfl, hd2⟩
      have p2 : Ext W9 u2 := (Ext.drew W9).trans hd2
      try go_wp2_with fail
      refine hK.out _ _ p2 (fun _ => ?_)
      clear hK K
      try simp only [Act.put, List.setIfInBounds_toArray, List.set_cons_zero, List.set_cons_succ]
      refine wpAnyH_ready (rs := [3]) (by kernel_rfl) (by simp) ?_
      refine AllReadyH.cons rfl (fun K hK => ?_) AllReadyH.nil
      go_simp
      refine (Ho.out _ p2).mono ?_
      rintro e u3 ⟨rfl, hd3⟩
      have p3 : Ext W9 u3 := (p2).trans hd3
      try go_wp2_with fail
      refine hK.out _ _ p3 (fun _ => ?_)
      clear hK K
      try simp only [Act.put, List.setIfInBounds_toArray, List.set_cons_zero, List.set_cons_succ]
      refine wpAnyH_take (i := 4) (v := .bool false) rfl (by kernel_rfl) (by kernel_rfl) (by kernel_rfl) (fun _ _ _ h => h) (Or.inl ⟨by rfl, fun w' hSw => ?_⟩) p3 ?_
      · clear hSw
        go_simp
        all_goals (with_reducible rfl)
      try simp only [Act.put, List.setIfInBounds_toArray, List.set_cons_zero, List.set_cons_succ]
      refine wpAnyH_done (by kernel_rfl) ?_ _
      refine NoPanic.normal ?_
      have HN := Lib.hid p3
      clear p2 p3 hd2 hd3 l0 l1 q20 q21 Ho
      go_wp2
      go_roundw
      case rel => exact ⟨j + 1, by simp, N.out.ext HN.out⟩
      case measure => simp [intOf]; omega
end Go.Proofs.Ytmlopkkbgpfdnaa
