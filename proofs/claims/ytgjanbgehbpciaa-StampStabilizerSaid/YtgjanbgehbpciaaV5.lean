/- Walks: After, Inverse. -/
import Derived.Test.YtgjanbgehbpciaaV4
namespace Go.Proofs.Ytgjanbgehbpciaa
open Go.RowKit

theorem valid_is {w h : Int} {b : Bool} (hs : okSize w h = b) (W : World) : Calls Try.prog 53 #[.agg #[.int .i64 w, .int .i64 h]] W fun e W' => e = .returned (.bool b) ∧ Below W.heap.size W W' := hs ▸ valid_any w h W
theorem sizeR_is {w h : Int} {b : Bool} (hs : okSize w h = b) (W : World) : Calls Try.prog 25 #[.int .i64 w, .int .i64 h] W fun e W' => e = .returned (.bool b) ∧ Below W.heap.size W W' := hs ▸ sizeR_any w h W
theorem has_is {w h : Int} {m : Mv} {b : Bool} (hs : has w h m = b) (W : World) : Calls Try.prog 51 #[.agg #[.int .i64 w, .int .i64 h], .agg #[.int .i64 m.dx, .int .i64 m.dy, .int .i64 m.t, .bool m.f]] W fun e W' => e = .returned (.bool b) ∧ Below W.heap.size W W' := hs ▸ has_any w h m W
theorem fits_is {w h : Int} {m : Mv} {b : Bool} (hs : has w h m = b) (W : World) : Calls Try.prog 19 #[.int .i64 w, .int .i64 h, .agg #[.int .i64 m.dx, .int .i64 m.dy, .int .i64 m.t, .bool m.f]] W fun e W' => e = .returned (.bool b) ∧ Below W.heap.size W W' := hs ▸ fits_any w h m W

set_option maxHeartbeats 1000000 in
set_option maxRecDepth 100000 in
theorem after_f (w h : Int) (a b : Mv) (W : World) (hs : okSize w h = false) :
    Calls Try.prog 23 #[.int .i64 w, .int .i64 h, .agg #[.int .i64 a.dx, .int .i64 a.dy, .int .i64 a.t, .bool a.f], .agg #[.int .i64 b.dx, .int .i64 b.dy, .int .i64 b.t, .bool b.f]] W fun e W' =>
      e = .returned (.tuple #[.agg #[.int .i64 0, .int .i64 0, .int .i64 0, .bool false], .int .i64 2]) ∧ Below W.heap.size W W' := by
  have Hhs := Lib.hid hs; clear hs
  go_enter Try.func23, Try.ntmps23
  go_wp2_with fail
  refine (valid_is Hhs.out _).mono ?_
  rintro e w1 ⟨rfl, hb⟩
  have K1 := Lib.hid hb; clear hb
  obtain ⟨c, f⟩ := bcell K1.out
  have z := K1.out.size
  simp only [World.size_alloc] at z c f
  go_wp2
  refine bodyPost_ret (v := .tuple #[.agg #[.int .i64 0, .int .i64 0, .int .i64 0, .bool false], .int .i64 2]) (by simp [results, Try.results23, go_sem, c, f, z]) rfl ⟨rfl, ?_⟩
  exact sc4 (nx (al4 W _ _ _ _) K1.out) (by omega) _ _ _ _

set_option maxHeartbeats 1000000 in
set_option maxRecDepth 100000 in
theorem after_tf (w h : Int) (a b : Mv) (W : World) (hs : okSize w h = true) (ha : has w h a = false) :
    Calls Try.prog 23 #[.int .i64 w, .int .i64 h, .agg #[.int .i64 a.dx, .int .i64 a.dy, .int .i64 a.t, .bool a.f], .agg #[.int .i64 b.dx, .int .i64 b.dy, .int .i64 b.t, .bool b.f]] W fun e W' =>
      e = .returned (.tuple #[.agg #[.int .i64 0, .int .i64 0, .int .i64 0, .bool false], .int .i64 2]) ∧ Below W.heap.size W W' := by
  have Hhs := Lib.hid hs; clear hs
  have Hha := Lib.hid ha; clear ha
  go_enter Try.func23, Try.ntmps23
  go_wp2_with fail
  refine (valid_is Hhs.out _).mono ?_
  rintro e w1 ⟨rfl, hb⟩
  have K1 := Lib.hid hb; clear hb
  obtain ⟨c, f⟩ := bcell K1.out
  have z := K1.out.size
  simp only [World.size_alloc] at z c f
  go_wp2_with fail
  refine (has_is Hha.out _).mono ?_
  rintro e w2 ⟨rfl, hb⟩
  have K2 := Lib.hid (nx K1.out hb); clear hb K1 c f z
  obtain ⟨c, f⟩ := bcell K2.out
  have z := K2.out.size
  simp only [World.size_alloc] at z c f
  go_wp2
  refine bodyPost_ret (v := .tuple #[.agg #[.int .i64 0, .int .i64 0, .int .i64 0, .bool false], .int .i64 2]) (by simp [results, Try.results23, go_sem, c, f, z]) rfl ⟨rfl, ?_⟩
  exact sc4 (nx (al4 W _ _ _ _) K2.out) (by omega) _ _ _ _

set_option maxHeartbeats 1000000 in
set_option maxRecDepth 100000 in
theorem after_ttf (w h : Int) (a b : Mv) (W : World) (hs : okSize w h = true) (ha : has w h a = true) (hb0 : has w h b = false) :
    Calls Try.prog 23 #[.int .i64 w, .int .i64 h, .agg #[.int .i64 a.dx, .int .i64 a.dy, .int .i64 a.t, .bool a.f], .agg #[.int .i64 b.dx, .int .i64 b.dy, .int .i64 b.t, .bool b.f]] W fun e W' =>
      e = .returned (.tuple #[.agg #[.int .i64 0, .int .i64 0, .int .i64 0, .bool false], .int .i64 2]) ∧ Below W.heap.size W W' := by
  have Hhs := Lib.hid hs; clear hs
  have Hha := Lib.hid ha; clear ha
  have Hhb0 := Lib.hid hb0; clear hb0
  go_enter Try.func23, Try.ntmps23
  go_wp2_with fail
  refine (valid_is Hhs.out _).mono ?_
  rintro e w1 ⟨rfl, hb⟩
  have K1 := Lib.hid hb; clear hb
  obtain ⟨c, f⟩ := bcell K1.out
  have z := K1.out.size
  simp only [World.size_alloc] at z c f
  go_wp2_with fail
  refine (has_is Hha.out _).mono ?_
  rintro e w2 ⟨rfl, hb⟩
  have K2 := Lib.hid (nx K1.out hb); clear hb K1 c f z
  obtain ⟨c, f⟩ := bcell K2.out
  have z := K2.out.size
  simp only [World.size_alloc] at z c f
  go_wp2_with fail
  refine (has_is Hhb0.out _).mono ?_
  rintro e w3 ⟨rfl, hb⟩
  have K3 := Lib.hid (nx K2.out hb); clear hb K2 c f z
  obtain ⟨c, f⟩ := bcell K3.out
  have z := K3.out.size
  simp only [World.size_alloc] at z c f
  go_wp2
  refine bodyPost_ret (v := .tuple #[.agg #[.int .i64 0, .int .i64 0, .int .i64 0, .bool false], .int .i64 2]) (by simp [results, Try.results23, go_sem, c, f, z]) rfl ⟨rfl, ?_⟩
  exact sc4 (nx (al4 W _ _ _ _) K3.out) (by omega) _ _ _ _

set_option maxHeartbeats 1000000 in
set_option maxRecDepth 100000 in
theorem after_ttt (w h : Int) (a b : Mv) (W : World) (hs : okSize w h = true) (ha : has w h a = true) (hb0 : has w h b = true) :
    Calls Try.prog 23 #[.int .i64 w, .int .i64 h, .agg #[.int .i64 a.dx, .int .i64 a.dy, .int .i64 a.t, .bool a.f], .agg #[.int .i64 b.dx, .int .i64 b.dy, .int .i64 b.t, .bool b.f]] W fun e W' =>
      e = .returned (.tuple #[.agg #[.int .i64 (aft w h a b).dx, .int .i64 (aft w h a b).dy, .int .i64 (aft w h a b).t, .bool (aft w h a b).f], .int .i64 0]) ∧ Below W.heap.size W W' := by
  have Hhs := Lib.hid hs; clear hs
  have Hha := Lib.hid ha; clear ha
  have Hhb0 := Lib.hid hb0; clear hb0
  go_enter Try.func23, Try.ntmps23
  go_wp2_with fail
  refine (valid_is Hhs.out _).mono ?_
  rintro e w1 ⟨rfl, hb⟩
  have K1 := Lib.hid hb; clear hb
  obtain ⟨c, f⟩ := bcell K1.out
  have z := K1.out.size
  simp only [World.size_alloc] at z c f
  go_wp2_with fail
  refine (has_is Hha.out _).mono ?_
  rintro e w2 ⟨rfl, hb⟩
  have K2 := Lib.hid (nx K1.out hb); clear hb K1 c f z
  obtain ⟨c, f⟩ := bcell K2.out
  have z := K2.out.size
  simp only [World.size_alloc] at z c f
  go_wp2_with fail
  refine (has_is Hhb0.out _).mono ?_
  rintro e w3 ⟨rfl, hb⟩
  have K3 := Lib.hid (nx K2.out hb); clear hb K2 c f z
  obtain ⟨c, f⟩ := bcell K3.out
  have z := K3.out.size
  simp only [World.size_alloc] at z c f
  go_wp2_with fail
  refine (after_any w h a b _ Hhs.out Hha.out Hhb0.out).mono ?_
  rintro e w4 ⟨rfl, hb⟩
  have K4 := Lib.hid (nx K3.out hb); clear hb K3 c f z
  obtain ⟨c, f⟩ := bcell K4.out
  have z := K4.out.size
  simp only [World.size_alloc] at z c f
  go_wp2
  refine bodyPost_ret (v := .tuple #[.agg #[.int .i64 (aft w h a b).dx, .int .i64 (aft w h a b).dy, .int .i64 (aft w h a b).t, .bool (aft w h a b).f], .int .i64 0]) (by simp [results, Try.results23, go_sem, c, f, z]) rfl ⟨rfl, ?_⟩
  exact sc4 (nx (al4 W _ _ _ _) K4.out) (by omega) _ _ _ _

set_option maxHeartbeats 1000000 in
set_option maxRecDepth 100000 in
theorem inverseS_f (w h : Int) (a : Mv) (W : World) (hs : okSize w h = false) :
    Calls Try.prog 24 #[.int .i64 w, .int .i64 h, .agg #[.int .i64 a.dx, .int .i64 a.dy, .int .i64 a.t, .bool a.f]] W fun e W' =>
      e = .returned (.tuple #[.agg #[.int .i64 0, .int .i64 0, .int .i64 0, .bool false], .int .i64 2]) ∧ Below W.heap.size W W' := by
  have Hhs := Lib.hid hs; clear hs
  go_enter Try.func24, Try.ntmps24
  go_wp2_with fail
  refine (valid_is Hhs.out _).mono ?_
  rintro e w1 ⟨rfl, hb⟩
  have K1 := Lib.hid hb; clear hb
  obtain ⟨c, f⟩ := bcell K1.out
  have z := K1.out.size
  simp only [World.size_alloc] at z c f
  go_wp2
  refine bodyPost_ret (v := .tuple #[.agg #[.int .i64 0, .int .i64 0, .int .i64 0, .bool false], .int .i64 2]) (by simp [results, Try.results24, go_sem, c, f, z]) rfl ⟨rfl, ?_⟩
  exact sc4 (nx (al3 W _ _ _) K1.out) (by omega) _ _ _ _

set_option maxHeartbeats 1000000 in
set_option maxRecDepth 100000 in
theorem inverseS_tf (w h : Int) (a : Mv) (W : World) (hs : okSize w h = true) (ha : has w h a = false) :
    Calls Try.prog 24 #[.int .i64 w, .int .i64 h, .agg #[.int .i64 a.dx, .int .i64 a.dy, .int .i64 a.t, .bool a.f]] W fun e W' =>
      e = .returned (.tuple #[.agg #[.int .i64 0, .int .i64 0, .int .i64 0, .bool false], .int .i64 2]) ∧ Below W.heap.size W W' := by
  have Hhs := Lib.hid hs; clear hs
  have Hha := Lib.hid ha; clear ha
  go_enter Try.func24, Try.ntmps24
  go_wp2_with fail
  refine (valid_is Hhs.out _).mono ?_
  rintro e w1 ⟨rfl, hb⟩
  have K1 := Lib.hid hb; clear hb
  obtain ⟨c, f⟩ := bcell K1.out
  have z := K1.out.size
  simp only [World.size_alloc] at z c f
  go_wp2_with fail
  refine (has_is Hha.out _).mono ?_
  rintro e w2 ⟨rfl, hb⟩
  have K2 := Lib.hid (nx K1.out hb); clear hb K1 c f z
  obtain ⟨c, f⟩ := bcell K2.out
  have z := K2.out.size
  simp only [World.size_alloc] at z c f
  go_wp2
  refine bodyPost_ret (v := .tuple #[.agg #[.int .i64 0, .int .i64 0, .int .i64 0, .bool false], .int .i64 2]) (by simp [results, Try.results24, go_sem, c, f, z]) rfl ⟨rfl, ?_⟩
  exact sc4 (nx (al3 W _ _ _) K2.out) (by omega) _ _ _ _

set_option maxHeartbeats 1000000 in
set_option maxRecDepth 100000 in
theorem inverseS_tt (w h : Int) (a : Mv) (W : World) (hs : okSize w h = true) (ha : has w h a = true) :
    Calls Try.prog 24 #[.int .i64 w, .int .i64 h, .agg #[.int .i64 a.dx, .int .i64 a.dy, .int .i64 a.t, .bool a.f]] W fun e W' =>
      e = .returned (.tuple #[.agg #[.int .i64 (inv w h a).dx, .int .i64 (inv w h a).dy, .int .i64 (inv w h a).t, .bool (inv w h a).f], .int .i64 0]) ∧ Below W.heap.size W W' := by
  have Hhs := Lib.hid hs; clear hs
  have Hha := Lib.hid ha; clear ha
  go_enter Try.func24, Try.ntmps24
  go_wp2_with fail
  refine (valid_is Hhs.out _).mono ?_
  rintro e w1 ⟨rfl, hb⟩
  have K1 := Lib.hid hb; clear hb
  obtain ⟨c, f⟩ := bcell K1.out
  have z := K1.out.size
  simp only [World.size_alloc] at z c f
  go_wp2_with fail
  refine (has_is Hha.out _).mono ?_
  rintro e w2 ⟨rfl, hb⟩
  have K2 := Lib.hid (nx K1.out hb); clear hb K1 c f z
  obtain ⟨c, f⟩ := bcell K2.out
  have z := K2.out.size
  simp only [World.size_alloc] at z c f
  go_wp2_with fail
  refine (inverse_any w h a _ Hhs.out Hha.out).mono ?_
  rintro e w3 ⟨rfl, hb⟩
  have K3 := Lib.hid (nx K2.out hb); clear hb K2 c f z
  obtain ⟨c, f⟩ := bcell K3.out
  have z := K3.out.size
  simp only [World.size_alloc] at z c f
  go_wp2
  refine bodyPost_ret (v := .tuple #[.agg #[.int .i64 (inv w h a).dx, .int .i64 (inv w h a).dy, .int .i64 (inv w h a).t, .bool (inv w h a).f], .int .i64 0]) (by simp [results, Try.results24, go_sem, c, f, z]) rfl ⟨rfl, ?_⟩
  exact sc4 (nx (al3 W _ _ _) K3.out) (by omega) _ _ _ _


/-- After, wrong arguments -/
theorem after_no (w h : Int) (a b : Mv) (W : World) (hs : (okSize w h && has w h a && has w h b) = false) :
    Calls Try.prog 23 #[.int .i64 w, .int .i64 h, .agg #[.int .i64 a.dx, .int .i64 a.dy, .int .i64 a.t, .bool a.f], .agg #[.int .i64 b.dx, .int .i64 b.dy, .int .i64 b.t, .bool b.f]] W fun e W' => e = .returned (.tuple #[.agg #[.int .i64 0, .int .i64 0, .int .i64 0, .bool false], .int .i64 2]) ∧ Below W.heap.size W W' := by
  cases h1 : okSize w h
  · exact after_f w h a b W h1
  · cases h2 : has w h a
    · exact after_tf w h a b W h1 h2
    · cases h3 : has w h b
      · exact after_ttf w h a b W h1 h2 h3
      · simp [h1, h2, h3] at hs
/-- Inverse, wrong arguments -/
theorem inverse_no (w h : Int) (a : Mv) (W : World) (hs : (okSize w h && has w h a) = false) :
    Calls Try.prog 24 #[.int .i64 w, .int .i64 h, .agg #[.int .i64 a.dx, .int .i64 a.dy, .int .i64 a.t, .bool a.f]] W fun e W' => e = .returned (.tuple #[.agg #[.int .i64 0, .int .i64 0, .int .i64 0, .bool false], .int .i64 2]) ∧ Below W.heap.size W W' := by
  cases h1 : okSize w h
  · exact inverseS_f w h a W h1
  · cases h2 : has w h a
    · exact inverseS_tf w h a W h1 h2
    · simp [h1, h2] at hs
end Go.Proofs.Ytgjanbgehbpciaa
