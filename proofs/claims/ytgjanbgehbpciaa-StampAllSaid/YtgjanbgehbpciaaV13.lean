/- Walks: the law's own functions: move, ownMove, Clone. -/
import Derived.Test.YtgjanbgehbpciaaV12
import Derived.Lib.MinMax
namespace Go.Proofs.Ytgjanbgehbpciaa
open Go.RowKit

set_option maxRecDepth 100000 in
theorem move_any (m : Mv) (W : World) : Calls Try.prog 14 #[.agg #[.int .i64 m.dx, .int .i64 m.dy, .int .i64 m.t, .bool m.f]] W fun e W' => e = .returned (.agg #[.int .i64 m.dx, .int .i64 m.dy, .int .i64 m.t, .bool m.f]) ∧ Ext W W' := by
  go_enter Try.func14, Try.ntmps14
  go_wp2
  exact bodyPost_ret (v := .agg #[.int .i64 m.dx, .int .i64 m.dy, .int .i64 m.t, .bool m.f]) (by simp [results, Try.results14, go_sem]) rfl ⟨rfl, al2 W _ _⟩

set_option maxRecDepth 100000 in
theorem ownMove_any (m : Mv) (W : World) : Calls Try.prog 26 #[.agg #[.int .i64 m.dx, .int .i64 m.dy, .int .i64 m.t, .bool m.f]] W fun e W' => e = .returned (.agg #[.int .i64 m.dx, .int .i64 m.dy, .int .i64 m.t, .bool m.f]) ∧ Ext W W' := by
  go_enter Try.func26, Try.ntmps26
  go_wp2
  exact bodyPost_ret (v := .agg #[.int .i64 m.dx, .int .i64 m.dy, .int .i64 m.t, .bool m.f]) (by simp [results, Try.results26, go_sem]) rfl ⟨rfl, al2 W _ _⟩

set_option maxRecDepth 100000 in
theorem own_any (w h : Int) (A : Option Addr) (n c : Nat) (W : World) : Calls Try.prog 21 #[.agg #[.int .i64 w, .int .i64 h, .slice A n c]] W fun e W' => e = .returned (.agg #[.int .i64 w, .int .i64 h, .slice A n c]) ∧ Ext W W' := by
  go_enter Try.func21, Try.ntmps21
  go_wp2
  exact bodyPost_ret (v := .agg #[.int .i64 w, .int .i64 h, .slice A n c]) (by simp [results, Try.results21, go_sem]) rfl ⟨rfl, al2 W _ _⟩

set_option maxRecDepth 100000 in
theorem clone_nil (W : World) : Calls Try.prog 49 #[.slice none 0 0] W fun e W' => e = .returned (.slice none 0 0) ∧ Ext W W' := by
  have hq := fun (w : World) => Lib.run_eql_slice_nil (P := Try.prog) w 22 3 none 0 0 0 0 Try.underlying22
  go_enter Try.func49, Try.ntmps49
  go_wp2
  go_ret
  exact ⟨rfl, Ext.refl _⟩

set_option maxRecDepth 100000 in
theorem clone_some (b off n c : Nat) (l : List Int) (W : World) (hn : n = l.length) (h70 : n ≤ 70) (hb : b < W.heap.size) (hc : ∀ j, j < n → W.cell? ⟨b, off + j, none⟩ = some (.int .i64 (l.getD j 0))) :
    Calls Try.prog 49 #[.slice (some ⟨b, off, none⟩) n c] W fun e W' => ∃ r, e = .returned r ∧ Il W' r l ∧ Fr W.heap.size r ∧ Ext W W' := by
  obtain ⟨i0, hi, hz0, hz1, hz2⟩ := info_parts info3
  have Hn := Lib.hid hn; clear hn
  have HC := Lib.hid hc; clear hc
  have hq := fun (w : World) => Lib.run_eql_slice_nil (P := Try.prog) w 22 3 (some ⟨b, off, none⟩) n c 0 0 Try.underlying22
  go_enter Try.func49, Try.ntmps49
  go_wp2_with (at_builtin; refine wpList_append_own _ rfl _ _ 22 rfl W.heap.size 3 i0 (.int .i64 0) 1 8 Try.underlying22 hi hz0 hz1 hz2 rfl (by decide) _ 0 [] rfl ?c0 ⟨b, off, none⟩ n c (l.map iv) rfl ?c6 ?c1 ?c2 ?c3 ?c4 ?c5 ?_)
  case c0 => exact World.ownsRow_lit W #[] 0 (base := W.heap.size) (size := 1) (e := 3) (Nat.le_refl _) (by unfold maxLen; omega) rfl
  case c6 => rw [List.length_map, ← Hn.out, Nat.mul_one]
  case c1 =>
    intro j u hj
    have hjl : j < l.length := by
      have := (List.getElem?_eq_some_iff.1 hj).1
      simpa using this
    rw [List.getElem?_map, List.getElem?_eq_getElem hjl] at hj
    simp only [Option.map_some, Option.some.injEq] at hj
    subst hj
    have e : (⟨b, off, none⟩ : Addr).add j = ⟨b, off + j, none⟩ := by unfold Addr.add; split <;> simp_all
    rw [e, World.cell?_alloc_past _ _ _ hb, HC.out j (by rw [Hn.out]; exact hjl), List.getD_eq_getElem?_getD, List.getElem?_eq_getElem hjl]
    rfl
  case c2 =>
    intro u hu
    obtain ⟨t, -, rfl⟩ := List.mem_map.1 hu
    rfl
  case c3 => unfold maxLen; omega
  case c4 => omega
  case c5 => simp
  intro v' w1 hown hgrow _
  have hx : Ext W w1 := (al1 W _).grown hgrow (by simp) (fun k hk => (World.ownsRow_lit W #[] 0 (base := W.heap.size) (size := 1) (e := 3) (Nat.le_refl _) (by unfold maxLen; omega) rfl).lt k hk |>.1)
  have hown2 : w1.ownsRow W.heap.size 3 1 v' l.length (l.map iv) := by
    rw [← Hn.out]; simpa using hown
  have HO := Lib.hid hown2
  have HX := Lib.hid hx
  clear hown hgrow hown2 hx
  go_wp2
  go_ret
  exact ⟨_, rfl, Il.of_own HO.out, fr_own (Nat.le_refl _) HO.out, HX.out⟩

set_option maxRecDepth 100000 in
theorem clone_zero (a : Addr) (c : Nat) (W : World) :
    Calls Try.prog 49 #[.slice (some a) 0 c] W fun e W' => ∃ r, e = .returned r ∧ Il W' r [] ∧ Fr W.heap.size r ∧ Ext W W' := by
  obtain ⟨i0, hi, hz0, hz1, hz2⟩ := info_parts info3
  have hq := fun (w : World) => Lib.run_eql_slice_nil (P := Try.prog) w 22 3 (some a) 0 c 0 0 Try.underlying22
  go_enter Try.func49, Try.ntmps49
  go_wp2_with (at_builtin; refine wpList_append_own _ rfl _ _ 22 rfl W.heap.size 3 i0 (.int .i64 0) 1 8 Try.underlying22 hi hz0 hz1 hz2 rfl (by decide) _ 0 [] rfl ?c0 a 0 c [] rfl rfl ?c1 ?c2 ?c3 ?c4 ?c5 ?_)
  case c0 => exact World.ownsRow_lit W #[] 0 (base := W.heap.size) (size := 1) (e := 3) (Nat.le_refl _) (by unfold maxLen; omega) rfl
  case c1 => intro j u hj; simp at hj
  case c2 => intro u hu; simp at hu
  case c3 => unfold maxLen; omega
  case c4 => omega
  case c5 => simp
  intro v' w1 hown hgrow _
  have hx : Ext W w1 := (al1 W _).grown hgrow (by simp) (fun k hk => (World.ownsRow_lit W #[] 0 (base := W.heap.size) (size := 1) (e := 3) (Nat.le_refl _) (by unfold maxLen; omega) rfl).lt k hk |>.1)
  have hown2 : w1.ownsRow W.heap.size 3 1 v' ([] : List Int).length (([] : List Int).map iv) := by simpa using hown
  have HO := Lib.hid hown2
  have HX := Lib.hid hx
  clear hown hgrow hown2 hx
  go_wp2
  go_ret
  exact ⟨_, rfl, Il.of_own HO.out, fr_own (Nat.le_refl _) HO.out, HX.out⟩
end Go.Proofs.Ytgjanbgehbpciaa
