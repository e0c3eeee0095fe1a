/- Walks: Collect, Moves, Close. -/
import Derived.Test.YtgjanbgehbpciaaE3
import Derived.Test.YtgjanbgehbpciaaE1
namespace Go.Proofs.Ytgjanbgehbpciaa
open Go.RowKit

theorem appendSeq_c (w h : Nat) (hs : okSize w h = true) (Bz : Nat) (W : World) (hBz : Bz < W.heap.size) (hz : C2 W Bz (.int .i64 w) (.int .i64 h)) :
    Calls Try.prog 82 #[.slice none 0 0, .func (.func 83) #[] #[.pointer (some ⟨Bz, 0, none⟩)]] W fun e W' => ∃ v, e = .returned v ∧ Ml W' v (mvs w h (pos w h 2 0 0 0)) ∧ Ext W W' :=
  (callsIn_wide.1 (appendSeq_in 3 w h (by omega) hs Bz _ rfl W hBz hz)).mono fun _ _ ⟨v, he, ho, hx⟩ => ⟨v, he, Ml.of_row ho, hx⟩

set_option maxRecDepth 100000 in
theorem collect_c (w h : Nat) (hs : okSize w h = true) (Bz : Nat) (W : World) (hBz : Bz < W.heap.size) (hz : C2 W Bz (.int .i64 w) (.int .i64 h)) :
    Calls Try.prog 60 #[.func (.func 83) #[] #[.pointer (some ⟨Bz, 0, none⟩)]] W fun e W' => ∃ v, e = .returned v ∧ Ml W' v (mvs w h (pos w h 2 0 0 0)) ∧ Ext W W' := by
  have hc := appendSeq_c w h hs Bz W hBz hz
  have HC := Lib.hid hc; clear hc hz hs
  go_enter Try.func60, Try.ntmps60
  go_wp2_with fail
  refine HC.out.mono ?_
  rintro e V ⟨v, rfl, hm, hx⟩
  have HM := Lib.hid hm; have HX := Lib.hid hx; clear hm hx
  go_wp2
  go_ret
  exact ⟨v, rfl, HM.out, HX.out⟩

set_option maxRecDepth 100000 in
theorem movesZ_c (w h : Int) (W : World) :
    Calls Try.prog 61 #[.agg #[.int .i64 w, .int .i64 h]] W fun e W' => e = .returned (.func (.func 83) #[] #[.pointer (some ⟨W.heap.size, 0, none⟩)]) ∧ W' = W.alloc (.cells #[.int .i64 w, .int .i64 h] 84) := by
  go_enter Try.func61, Try.ntmps61
  go_wp2
  go_ret
  exact ⟨rfl, rfl⟩

set_option maxRecDepth 100000 in
theorem movesS_f (w h : Int) (W : World) (hs : okSize w h = false) :
    Calls Try.prog 29 #[.int .i64 w, .int .i64 h] W fun e W' => e = .returned (.tuple #[.slice none 0 0, .int .i64 2]) ∧ Ext W W' := by
  have HS := Lib.hid hs; clear hs
  go_enter Try.func29, Try.ntmps29
  go_wp2_with fail
  refine (valid_is HS.out _).mono ?_
  rintro e V ⟨rfl, hx⟩
  have E : Hid (Ext W V) := Lib.hid (nx (al1 W _) hx); clear hx
  go_wp2
  go_ret2
  exact ⟨rfl, E.out⟩
set_option maxRecDepth 100000 in
theorem movesS_t (w h : Nat) (W : World) (hs : okSize w h = true) :
    Calls Try.prog 29 #[.int .i64 w, .int .i64 h] W fun e W' => ∃ v, e = .returned (.tuple #[v, .int .i64 0]) ∧ Ml W' v (mvs w h (pos w h 2 0 0 0)) ∧ Ext W W' := by
  have hcc := fun Bz X (hb : Bz < X.heap.size) hz => collect_c w h hs Bz X hb hz
  have HS := Lib.hid hs; have HCC := Lib.hid hcc; clear hs hcc
  have q1 : C2 (W.alloc (.cells #[.int .i64 w, .int .i64 h] 84)) W.heap.size (.int .i64 w) (.int .i64 h) := by
    refine ⟨?_, ?_⟩ <;> (rw [World.cell?_alloc_new]; rfl)
  have hlt1 : W.heap.size < (W.alloc (.cells #[.int .i64 w, .int .i64 h] 84)).heap.size := by simp
  have Q1 := Lib.hid q1; have HL := Lib.hid hlt1; clear q1 hlt1
  go_enter Try.func29, Try.ntmps29
  go_wp2_with fail
  refine (valid_is HS.out _).mono ?_
  rintro e V ⟨rfl, hx⟩
  have q2 := Q1.out.ext HL.out hx
  have E : Hid (Ext W V) := Lib.hid (nx (al1 W _) hx)
  have hV : W.heap.size < V.heap.size := by have := Ext.size hx; have := HL.out; omega
  clear hx
  obtain ⟨z0, z1⟩ := q2
  go_wp2_with fail
  refine (movesZ_c _ _ _).mono ?_
  rintro e V2 ⟨rfl, rfl⟩
  clear z0 z1
  have q3 : C2 (V.alloc (.cells #[.int .i64 w, .int .i64 h] 84)) V.heap.size (.int .i64 w) (.int .i64 h) := by
    refine ⟨?_, ?_⟩ <;> (rw [World.cell?_alloc_new]; rfl)
  have Q3 := Lib.hid q3; clear q3
  go_wp2_with fail
  refine (HCC.out _ _ (by simp) Q3.out).mono ?_
  rintro e V3 ⟨v, rfl, hm, hx⟩
  obtain ⟨A, c, rfl, h1, h2, h3⟩ := hm
  have HM : Hid (Ml V3 (.slice A (mvs w h (pos w h 2 0 0 0)).length c) (mvs w h (pos w h 2 0 0 0))) := Lib.hid ⟨A, c, rfl, h1, h2, h3⟩
  have HX : Hid (Ext W V3) := Lib.hid (E.out.trans (nx ((Ext.refl V).alc _) hx)); clear hx h3
  obtain ⟨N, hN⟩ : ∃ N, N = (mvs w h (pos w h 2 0 0 0)).length := ⟨_, rfl⟩
  rw [← hN] at HM ⊢
  clear hN
  go_wp2
  go_ret2
  exact ⟨_, rfl, HM.out, HX.out⟩

set_option maxRecDepth 100000 in
theorem closeS_f (w h : Int) (A : Option Addr) (n c : Nat) (W : World) (hs : okSize w h = false) :
    Calls Try.prog 30 #[.int .i64 w, .int .i64 h, .slice A n c] W fun e W' => e = .returned (.tuple #[.slice none 0 0, .int .i64 2]) ∧ Ext W W' := by
  have HS := Lib.hid hs; clear hs
  go_enter Try.func30, Try.ntmps30
  go_wp2_with fail
  refine (valid_is HS.out _).mono ?_
  rintro e V ⟨rfl, hx⟩
  have E : Hid (Ext W V) := Lib.hid (nx (al1 W _) hx); clear hx
  go_wp2
  go_ret2
  exact ⟨rfl, E.out⟩
set_option maxRecDepth 100000 in
theorem closeS_long (w h : Int) (A : Option Addr) (n c : Nat) (W : World) (hs : okSize w h = true) (hn : 16 < n) (hn1 : n ≤ 1000) :
    Calls Try.prog 30 #[.int .i64 w, .int .i64 h, .slice A n c] W fun e W' => e = .returned (.tuple #[.slice none 0 0, .int .i64 2]) ∧ Ext W W' := by
  have HS := Lib.hid hs; clear hs
  go_enter Try.func30, Try.ntmps30
  go_wp2_with fail
  refine (valid_is HS.out _).mono ?_
  rintro e V ⟨rfl, hx⟩
  have E : Hid (Ext W V) := Lib.hid (nx (al1 W _) hx); clear hx
  go_wp2
  go_ret2
  exact ⟨rfl, E.out⟩

set_option maxRecDepth 100000 in
theorem hasAll_nil (w h : Nat) (A : Option Addr) (c : Nat) (W : World) :
    Calls Try.prog 62 #[.agg #[.int .i64 w, .int .i64 h], .slice A 0 c] W fun e W' => e = .returned (.bool true) ∧ Ext W W' := by
  go_enter Try.func62, Try.ntmps62
  go_wp2_with fail
  have bb := al1 W (.cells #[.int .i64 w, .int .i64 h] 84)
  generalize (W.alloc (.cells #[.int .i64 w, .int .i64 h] 84)) = W1 at *
  have BB : Hid (Ext W W1) := Lib.hid bb; clear bb
  go_loopw [9] (fun i wr => i = .int .i64 0 ∧ wr = W1) (fun _ _ => 0)
  case atStart => exact ⟨rfl, rfl⟩
  case round =>
    obtain ⟨rfl, rfl⟩ := hrel
    go_wp2
    go_ret
    exact ⟨rfl, BB.out⟩
theorem hasAll_any (w h : Nat) (v : Value) (l : List Mv) (W : World) (hml : Ml W v l) (hN : l.length ≤ 1000) :
    Calls Try.prog 62 #[.agg #[.int .i64 w, .int .i64 h], v] W fun e W' => e = .returned (.bool (l.all (fun m => has w h m))) ∧ Ext W W' := by
  have h0 := hml
  obtain ⟨A, c, rfl, h1, h2, h4⟩ := h0
  by_cases hp : 0 < l.length
  · obtain ⟨b, off, rfl, hb, hc⟩ := h4 hp
    exact hasAll_c w h b off _ c l W rfl h1 h2 hb hc
  · have hl : l = [] := List.eq_nil_of_length_eq_zero (by omega)
    subst hl
    exact hasAll_nil w h A c W

set_option maxHeartbeats 1000000 in
set_option maxRecDepth 100000 in
theorem closeS_has (w h : Nat) (A : Option Addr) (n c : Nat) (l : List Mv) (W : World) (hs : okSize w h = true) (hml : Ml W (.slice A n c) l) (hn : n ≤ 16) (hh : (l.all (fun m => has w h m)) = false) :
    Calls Try.prog 30 #[.int .i64 w, .int .i64 h, .slice A n c] W fun e W' => e = .returned (.tuple #[.slice none 0 0, .int .i64 2]) ∧ Ext W W' := by
  have hlen : n = l.length := hml.len
  have hha := fun X (hm : Ml X (.slice A n c) l) => hasAll_any w h _ l X hm (by omega)
  rw [hh] at hha
  have HS := Lib.hid hs; have HA := Lib.hid hha; have HML := Lib.hid hml; clear hs hha hml hh hlen
  have q1 : C2 (W.alloc (.cells #[.int .i64 w, .int .i64 h] 84)) W.heap.size (.int .i64 w) (.int .i64 h) := by
    refine ⟨?_, ?_⟩ <;> (rw [World.cell?_alloc_new]; rfl)
  have hlt1 : W.heap.size < (W.alloc (.cells #[.int .i64 w, .int .i64 h] 84)).heap.size := by simp
  have Q1 := Lib.hid q1; have HL := Lib.hid hlt1; clear q1 hlt1
  go_enter Try.func30, Try.ntmps30
  go_wp2_with fail
  refine (valid_is HS.out _).mono ?_
  rintro e V ⟨rfl, hx⟩
  have E : Hid (Ext W V) := Lib.hid (nx (al1 W _) hx)
  obtain ⟨z0, z1⟩ := Q1.out.ext HL.out hx
  clear hx
  go_wp2_with fail
  refine (HA.out _ (HML.out.ext E.out)).mono ?_
  rintro e V2 ⟨rfl, hx⟩
  have E2 : Hid (Ext W V2) := Lib.hid (E.out.trans hx); clear hx z0 z1
  go_wp2
  go_ret2
  exact ⟨rfl, E2.out⟩

set_option maxHeartbeats 1000000 in
set_option maxRecDepth 100000 in
theorem closeS_t (w h : Nat) (A : Option Addr) (n c : Nat) (l : List Mv) (W : World) (hs : okSize w h = true) (hml : Ml W (.slice A n c) l) (hn : n ≤ 16) (hh : (l.all (fun m => has w h m)) = true) :
    Calls Try.prog 30 #[.int .i64 w, .int .i64 h, .slice A n c] W fun e W' => ∃ v, e = .returned (.tuple #[v, .int .i64 0]) ∧ Ml W' v (grp w h l) ∧ Ext W W' := by
  have hlen : n = l.length := hml.len
  have hha := fun X (hm : Ml X (.slice A n c) l) => hasAll_any w h _ l X hm (by omega)
  have hall : ∀ m ∈ l, has w h m = true := fun m hm => by have := List.all_eq_true.1 hh m hm; exact this
  have hcl := fun X (hm : Ml X (.slice A n c) l) => closed_any w h _ l X hs hall hm (by omega)
  rw [hh] at hha
  have HS := Lib.hid hs; have HA := Lib.hid hha; have HML := Lib.hid hml; have HCL := Lib.hid hcl; clear hs hha hml hh hlen hall hcl
  have q1 : C2 (W.alloc (.cells #[.int .i64 w, .int .i64 h] 84)) W.heap.size (.int .i64 w) (.int .i64 h) := by
    refine ⟨?_, ?_⟩ <;> (rw [World.cell?_alloc_new]; rfl)
  have hlt1 : W.heap.size < (W.alloc (.cells #[.int .i64 w, .int .i64 h] 84)).heap.size := by simp
  have Q1 := Lib.hid q1; have HL := Lib.hid hlt1; clear q1 hlt1
  go_enter Try.func30, Try.ntmps30
  go_wp2_with fail
  refine (valid_is HS.out _).mono ?_
  rintro e V ⟨rfl, hx⟩
  have E : Hid (Ext W V) := Lib.hid (nx (al1 W _) hx)
  have q2 := Q1.out.ext HL.out hx
  have hV : W.heap.size < V.heap.size := by have := Ext.size hx; have := HL.out; omega
  have Q2 := Lib.hid q2; clear hx q2
  obtain ⟨z0, z1⟩ := Q2.out
  go_wp2_with fail
  refine (HA.out _ (HML.out.ext E.out)).mono ?_
  rintro e V2 ⟨rfl, hx⟩
  have E2 : Hid (Ext W V2) := Lib.hid (E.out.trans hx); clear z0 z1
  obtain ⟨z0, z1⟩ := Q2.out.ext hV hx
  have hV2 : W.heap.size < V2.heap.size := Nat.lt_of_lt_of_le hV (Ext.size hx)
  clear hx
  go_wp2_with fail
  refine (HCL.out _ (HML.out.ext E2.out)).mono ?_
  rintro e V3 ⟨v, rfl, hm, hx⟩
  obtain ⟨A3, c3, rfl, h1, h2, h3⟩ := hm
  have HM : Hid (Ml V3 (.slice A3 (grp w h l).length c3) (grp w h l)) := Lib.hid ⟨A3, c3, rfl, h1, h2, h3⟩
  have E3 : Hid (Ext W V3) := Lib.hid (E2.out.trans hx); clear hx h3 z0 z1
  obtain ⟨N, hN⟩ : ∃ N, N = (grp w h l).length := ⟨_, rfl⟩
  rw [← hN] at HM ⊢
  clear hN
  go_wp2
  go_ret2
  exact ⟨_, rfl, HM.out, E3.out⟩
end Go.Proofs.Ytgjanbgehbpciaa
