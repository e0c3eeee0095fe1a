/- Walks: the table of the reference's Common. -/
import Derived.Test.YtlachbodibajlaaDoorM11
namespace Go.Proofs.YtlachbodibajlaaDoor
open Go.RowKit Go.Shelf

/-- the length of the longest common string of what is left -/
def cL (u v : List UInt8) (i j : Nat) : Nat := Bw.cl (u.drop i) (v.drop j)
theorem cL_le (u v : List UInt8) (i j : Nat) : cL u v i j ≤ u.length := Nat.le_trans (cm_le _ _) (by rw [List.length_drop]; omega)
theorem cL_end (u v : List UInt8) {i : Nat} (j : Nat) (h : u.length ≤ i) : cL u v i j = 0 := by unfold cL; rw [List.drop_of_length_le h, Bw.cl_nilL]
theorem cL_endR (u v : List UInt8) (i : Nat) {j : Nat} (h : v.length ≤ j) : cL u v i j = 0 := by unfold cL; rw [List.drop_of_length_le h, Bw.cl_nilR]
theorem cL_step {u v : List UInt8} (hu : ∀ c ∈ u, c ∈ Bw.letters) {i j : Nat} (hi : i < u.length) (hj : j < v.length) :
    cL u v i j = if u.getD i 0 = v.getD j 0 then max (max (cL u v (i + 1) j) (cL u v i (j + 1))) (cL u v (i + 1) (j + 1) + 1) else max (cL u v (i + 1) j) (cL u v i (j + 1)) := by
  unfold cL
  have hx : ∀ c ∈ u.drop i, c ∈ Bw.letters := fun c h => hu c (List.mem_of_mem_drop h)
  rw [List.getD_eq_getElem?_getD, List.getD_eq_getElem?_getD, List.getElem?_eq_getElem hi, List.getElem?_eq_getElem hj]
  rw [List.drop_eq_getElem_cons hi] at hx ⊢
  rw [List.drop_eq_getElem_cons hj]
  exact Bw.cl_cons hx
/-- the table, rows from k on -/
def Rw (u v : List UInt8) (n1 m1 B gt k : Nat) (f : Nat → Value) (r : Nat → Nat) (X : World) : Prop :=
  Bk X gt 32 n1 f ∧ ∀ i, k ≤ i → i < n1 → f i = .slice (some ⟨r i, 0, none⟩) m1 m1 ∧ r i ≠ gt ∧ B ≤ r i ∧ BI X (r i) m1 (fun j => (cL u v i j : Nat))
theorem Rw.up {u v : List UInt8} {n1 m1 B gt k s : Nat} {f : Nat → Value} {r : Nat → Nat} {X Y : World} {x : Nat → Int} (h : Rw u v n1 m1 B gt (k + 1) f r X) (hs : s ≠ gt) (hB : B ≤ s) (hx : BI Y s m1 x) (hL : ∀ j, j < m1 → x j = (cL u v k j : Nat))
    (hg : Bk Y gt 32 n1 (up f k (.slice (some ⟨s, 0, none⟩) m1 m1))) (hb : ∀ b, b < X.heap.size → b ≠ gt → Y.heap[b]? = X.heap[b]?) : Rw u v n1 m1 B gt k (up f k (.slice (some ⟨s, 0, none⟩) m1 m1)) (up r k s) Y := by
  refine ⟨hg, fun i h1 h2 => ?_⟩
  by_cases e : i = k
  · subst e
    rw [up_self, up_self]
    exact ⟨rfl, hs, hB, Bk.congr hx fun j hj => by rw [hL j hj]⟩
  · rw [up_ne _ _ e, up_ne _ _ e]
    obtain ⟨g1, g2, g3, g4⟩ := h.2 i (by omega) h2
    exact ⟨g1, g2, g3, (hb _ (Bk.lt g4) g2).trans g4⟩

/-- the rows that one element needs -/
def Tri (gt n1 m1 s r1 : Nat) (F : Nat → Value) (y x : Nat → Int) (X : World) : Prop := Bk X gt 32 n1 F ∧ BI X r1 m1 y ∧ BI X s m1 x
theorem Tri.drw {gt n1 m1 s r1 : Nat} {F : Nat → Value} {y x : Nat → Int} {X : World} (h : Tri gt n1 m1 s r1 F y x X) : Tri gt n1 m1 s r1 F y x X.drew := h
theorem Tri.st {gt n1 m1 s r1 : Nat} {F : Nat → Value} {y x : Nat → Int} {X : World} (h : Tri gt n1 m1 s r1 F y x X) (hg : gt ≠ s) (hr : r1 ≠ s) (j : Nat) (z : Int) : Tri gt n1 m1 s r1 F y (up x j z) (X.setCell ⟨s, j, none⟩ (.int .i64 z)) :=
  ⟨(heap_far hg).trans h.1, (heap_far hr).trans h.2.1, BI.set_ h.2.2 j z⟩
theorem Tri.get {gt n1 m1 s r1 : Nat} {F : Nat → Value} {y x : Nat → Int} {X : World} (h : Tri gt n1 m1 s r1 F y x X) {k k1 j j1 : Nat} {V1 V2 : Value} {a1 a2 a3 z : Int} (hk : k < n1) (hk1 : k1 < n1) (hj : j < m1) (hj1 : j1 < m1) (h1 : F k = V1) (h2 : F k1 = V2) (h3 : y j = a1) (h4 : y j1 = a3) (h5 : x j = z) (h6 : x j1 = a2) :
    X.cell? ⟨gt, k, none⟩ = some V1 ∧ X.cell? ⟨gt, k1, none⟩ = some V2 ∧ X.cell? ⟨r1, j, none⟩ = some (.int .i64 a1) ∧ X.cell? ⟨r1, j1, none⟩ = some (.int .i64 a3) ∧ X.cell? ⟨s, j, none⟩ = some (.int .i64 z) ∧ X.cell? ⟨s, j1, none⟩ = some (.int .i64 a2) ∧ X.frozen? ⟨s, j, none⟩ = false ∧ gt < X.heap.size ∧ r1 < X.heap.size ∧ s < X.heap.size := by
  subst h1 h2 h3 h4 h5 h6
  exact ⟨Bk.cell h.1 hk, Bk.cell h.1 hk1, Bk.cell h.2.1 hj, Bk.cell h.2.1 hj1, Bk.cell h.2.2 hj, Bk.cell h.2.2 hj1, Bk.free h.2.2 j, Bk.lt h.1, Bk.lt h.2.1, Bk.lt h.2.2⟩

set_option maxHeartbeats 4000000 in
set_option maxRecDepth 100000 in
theorem tableC_any (u v : List UInt8) (n1 m1 : Nat) (W : World) (hu : okWd u = true) (hv : okWd v = true) (hn1 : n1 = u.length + 1) (hm1 : m1 = v.length + 1) :
    Calls Tryd.prog 67 #[.string ⟨u.toArray⟩, .string ⟨v.toArray⟩] W fun e W' => ∃ gt f r, e = .returned (.slice (some ⟨gt, 0, none⟩) n1 n1) ∧ Rw u v n1 m1 W.heap.size gt 0 f r W' ∧ W.heap.size ≤ gt ∧ Ext W W' := by
  obtain ⟨hu8, hul⟩ := okWd_iff.1 hu
  obtain ⟨hv8, -⟩ := okWd_iff.1 hv
  have HUL := Lib.hid hul
  have yn : IntKind.i64.wrap ((u.length : Int) + 1) = (n1 : Int) := by
    rw [show (u.length : Int) + 1 = (n1 : Int) by omega]; exact IntWalk.i64_in _ (by omega)
  have ym : IntKind.i64.wrap ((v.length : Int) + 1) = (m1 : Int) := by
    rw [show (v.length : Int) + 1 = (m1 : Int) by omega]; exact IntWalk.i64_in _ (by omega)
  obtain ⟨C2, hC2⟩ : ∃ C, C = (Array.ofFn fun _ : Fin m1 => Value.int .i64 0) := ⟨_, rfl⟩
  have hk1 : ∀ w, (Instr.makeSlice 45 (.int .i64 (n1 : Int)) (.int .i64 (n1 : Int))).run Tryd.prog w = .ok (.slice (some ⟨w.heap.size, 0, none⟩) n1 n1) (w.alloc (.cells (Array.ofFn fun _ : Fin n1 => .slice none 0 0) 32)) :=
    fun w => make_one 45 32 _ 24 Tryd.underlying45 info32 rfl (by omega) n1 (by omega) w
  have hk2 : ∀ w, (Instr.makeSlice 32 (.int .i64 (m1 : Int)) (.int .i64 (m1 : Int))).run Tryd.prog w = .ok (.slice (some ⟨w.heap.size, 0, none⟩) m1 m1) (w.alloc (.cells C2 3)) :=
    fun w => by rw [hC2]; exact make_one 32 3 _ 8 Tryd.underlying32 info3 rfl (by omega) m1 (by omega) w
  have HK1 := Lib.hid hk1; have HK2 := Lib.hid hk2; have HC2 := Lib.hid hC2
  have hz1 : n1 ≤ 9 := by omega
  have hz2 : m1 ≤ 9 := by omega
  have hnp : 0 < n1 := by omega
  have hmp : 0 < m1 := by omega
  have HNM := Lib.hid (And.intro hn1 hm1)
  have HY := Lib.hid (And.intro yn ym)
  clear hu hv hu8 hv8 hul hk1 hk2 hn1 hm1 ym yn hC2
  go_enter Tryd.func67, Tryd.ntmps67
  have yn := HY.out.1
  have hk1 := HK1.out
  go_upto_region 2 with fail
  clear yn hk1
  have hin0 : Hid (Rw u v n1 m1 W.heap.size W.heap.size n1 (fun _ => .slice none 0 0) (fun _ => 0) (W.alloc (.cells (Array.ofFn fun _ : Fin n1 => .slice none 0 0) 32)) ∧ Ext W (W.alloc (.cells (Array.ofFn fun _ : Fin n1 => .slice none 0 0) 32))) := by
    refine Lib.hid ⟨⟨?_, fun i h1 h2 => by omega⟩, al1 W _⟩
    exact heap_alloc_new W _
  generalize W.alloc (.cells (Array.ofFn fun _ : Fin n1 => .slice none 0 0) 32) = W1 at *
  obtain ⟨gt, hgt⟩ : ∃ g, g = W.heap.size := ⟨_, rfl⟩
  rw [← hgt] at hin0 ⊢
  have HGT := Lib.hid hgt
  clear hgt
  go_wp2_with fail
  go_loopw [6, 7] (fun q _ wr => ∃ (k : Nat) (i : Int) (f : Nat → Value) (r : Nat → Nat), q = .int .i64 i ∧ i + 1 = k ∧ k ≤ n1 ∧ Hid (Rw u v n1 m1 gt gt k f r wr ∧ Ext W wr)) (fun q _ _ => (intOf q + 1).toNat)
  case atStart => exact ⟨n1, _, _, _, rfl, by have := HNM.out; omega, Nat.le_refl _, hin0⟩
  case round =>
    clear hin0
    obtain ⟨k0, i, f, r, rfl, hik, hk, hin⟩ := hrel
    cases k0 with
    | zero =>
      obtain rfl : i = -1 := by omega
      go_wp2
      go_ret
      exact ⟨gt, f, r, rfl, by rw [← HGT.out]; exact hin.out.1, by have := HGT.out; omega, hin.out.2⟩
    | succ k =>
      obtain rfl : i = (k : Int) := by omega
      have hkn : k < n1 := by omega
      obtain ⟨hB, hrows⟩ := hin.out.1
      have hgz := Bk.lt hB
      have hk2 := HK2.out wr
      have e3 : Ext wr (wr.alloc (.cells C2 3)) := Ext.alc (Ext.refl _) _
      have co := Bk.cell (hB.ext e3) hkn
      have cf := Bk.free (hB.ext e3) k
      have cz := Bk.lt (hB.ext e3)
      have ym := HY.out.2
      have HRW := Lib.hid (And.intro hin.out.1 (And.intro hB e3))
      clear hB hrows e3
      go_upto_region 6 with fail
      clear hk2 co cf cz ym
      obtain ⟨hRw, hB, -⟩ := HRW.out
      have hB3 : Bk ((wr.setCell ⟨gt, k, none⟩ (.slice (some ⟨wr.heap.size, 0, none⟩) m1 m1)).alloc (.cells C2 3)) gt 32 n1 (up f k (.slice (some ⟨wr.heap.size, 0, none⟩) m1 m1)) := (hB.set_ k _).alloc _
      have hx3 : BI ((wr.setCell ⟨gt, k, none⟩ (.slice (some ⟨wr.heap.size, 0, none⟩) m1 m1)).alloc (.cells C2 3)) wr.heap.size m1 (fun _ => 0) := by
        have h1 := heap_alloc_new (wr.setCell ⟨gt, k, none⟩ (.slice (some ⟨wr.heap.size, 0, none⟩) m1 m1)) (.cells C2 3)
        rw [show (wr.setCell ⟨gt, k, none⟩ (.slice (some ⟨wr.heap.size, 0, none⟩) m1 m1)).heap.size = wr.heap.size by simp [World.setCell], HC2.out] at h1
        rw [HC2.out]
        exact h1
      have hb3 : ∀ b, b < wr.heap.size → b ≠ gt → ((wr.setCell ⟨gt, k, none⟩ (.slice (some ⟨wr.heap.size, 0, none⟩) m1 m1)).alloc (.cells C2 3)).heap[b]? = wr.heap[b]? := fun b h1 h2 =>
        (Below.heap_alloc _ _ _ (by simp [World.setCell]; omega)).trans (heap_far h2)
      have hx5 : Ext W ((wr.setCell ⟨gt, k, none⟩ (.slice (some ⟨wr.heap.size, 0, none⟩) m1 m1)).alloc (.cells C2 3)) := (hin.out.2.sc (by have := HGT.out; omega)).alc _
      generalize (wr.setCell ⟨gt, k, none⟩ (.slice (some ⟨wr.heap.size, 0, none⟩) m1 m1)).alloc (.cells C2 3) = w3 at *
      have hgs : gt ≠ wr.heap.size := by omega
      have hgs2 : gt ≤ wr.heap.size := by omega
      obtain ⟨s, hs⟩ : ∃ s, s = wr.heap.size := ⟨_, rfl⟩
      rw [← hs] at hB3 hx3 hb3 hgs hgs2 ⊢
      have H3 := Lib.hid (And.intro hB3 (And.intro hx3 (And.intro hb3 (And.intro hx5 hs))))
      clear hB3 hx3 hb3 hx5 hB hRw hs hgz
      obtain ⟨q0, hq0⟩ : ∃ q0 : Int, q0 = (v.length : Int) - 1 := ⟨_, rfl⟩
      have yq : IntKind.i64.wrap ((v.length : Int) - 1) = q0 := by
        have := HNM.out
        rw [← hq0]; exact IntWalk.i64_in _ (by omega)
      have HQ0 := Lib.hid hq0
      clear hq0
      go_wp2_with fail
      clear yq
      go_loopw [7] (fun q wr => ∃ (z : Nat) (j : Int) (x : Nat → Int), q = .int .i64 j ∧ j + 1 = z ∧ z < m1 ∧ Hid (BI wr s m1 x ∧ Kq s s w3 wr ∧ ∀ j, j < m1 → (z ≤ j ∨ k + 1 = n1) → x j = (cL u v k j : Nat))) (fun q _ => (intOf q + 1).toNat)
      case atStart =>
        have h1 := HQ0.out; have h2 := HNM.out
        refine ⟨v.length, q0, fun _ => 0, rfl, by omega, by omega, Lib.hid ⟨H3.out.2.1, Kq.refl _ _ _, fun j hj h => ?_⟩⟩
        rcases h with h | h
        · rw [cL_endR u v k h]; rfl
        · rw [cL_end u v j (by omega)]; rfl
      case round =>
        obtain ⟨z0, j0, x, rfl, hjz, hz, hin2⟩ := hrel
        by_cases hkl : k + 1 = n1
        · have hkl2 : ¬ (k : Int) < (u.length : Int) := by have := HNM.out; omega
          have hR : Rw u v n1 m1 gt gt k (up f k (.slice (some ⟨s, 0, none⟩) m1 m1)) (up r k s) wr := by
            refine Rw.up (x := x) HRW.out.1 (Ne.symm hgs) hgs2 hin2.out.1 (fun j hj => hin2.out.2.2 j hj (.inr hkl)) ((hin2.out.2.1.block gt (Bk.lt H3.out.1) hgs hgs).trans H3.out.1) (fun b h1 h2 => ?_)
            have h9 := H3.out.2.2.2.2
            have h8 := Bk.lt H3.out.2.1
            exact (hin2.out.2.1.block b (by omega) (by omega) (by omega)).trans (H3.out.2.2.1 b (by omega) h2)
          have hE : Ext W wr := by
            have h8 := Bk.lt H3.out.2.1
            have h9 := HGT.out
            have e := hin2.out.2.1
            exact ⟨e.os.trans H3.out.2.2.2.1.os, e.tape.trans H3.out.2.2.2.1.tape, e.output.trans H3.out.2.2.2.1.output, Nat.le_trans H3.out.2.2.2.1.size e.size, fun b hb => (e.block b (Nat.lt_of_lt_of_le hb H3.out.2.2.2.1.size) (by omega) (by omega)).trans (H3.out.2.2.2.1.block b hb)⟩
          have HR := Lib.hid (And.intro hR hE)
          clear hR hE
          have yk : IntKind.i64.wrap ((k : Int) - 1) = (k : Int) - 1 := IntWalk.i64_in _ (by omega)
          by_cases hj0 : 0 ≤ j0
          · go_wp2
            go_roundw
            case rel => exact ⟨k, (k : Int) - 1, _, _, rfl, by omega, by omega, HR⟩
            case measure => simp [intOf] <;> omega
          · go_wp2
            go_roundw
            case rel => exact ⟨k, (k : Int) - 1, _, _, rfl, by omega, by omega, HR⟩
            case measure => simp [intOf] <;> omega
        · have hkl2 : (k : Int) < (u.length : Int) := by have := HNM.out; omega
          cases z0 with
          | zero =>
            obtain rfl : j0 = -1 := by omega
            have hR : Rw u v n1 m1 gt gt k (up f k (.slice (some ⟨s, 0, none⟩) m1 m1)) (up r k s) wr := by
              refine Rw.up (x := x) HRW.out.1 (Ne.symm hgs) hgs2 hin2.out.1 (fun j hj => hin2.out.2.2 j hj (.inl (Nat.zero_le _))) ((hin2.out.2.1.block gt (Bk.lt H3.out.1) hgs hgs).trans H3.out.1) (fun b h1 h2 => ?_)
              have h9 := H3.out.2.2.2.2
              have h8 := Bk.lt H3.out.2.1
              exact (hin2.out.2.1.block b (by omega) (by omega) (by omega)).trans (H3.out.2.2.1 b (by omega) h2)
            have hE : Ext W wr := by
              have h8 := Bk.lt H3.out.2.1
              have h9 := HGT.out
              have e := hin2.out.2.1
              exact ⟨e.os.trans H3.out.2.2.2.1.os, e.tape.trans H3.out.2.2.2.1.tape, e.output.trans H3.out.2.2.2.1.output, Nat.le_trans H3.out.2.2.2.1.size e.size, fun b hb => (e.block b (Nat.lt_of_lt_of_le hb H3.out.2.2.2.1.size) (by omega) (by omega)).trans (H3.out.2.2.2.1.block b hb)⟩
            have HR := Lib.hid (And.intro hR hE)
            clear hR hE
            have yk : IntKind.i64.wrap ((k : Int) - 1) = (k : Int) - 1 := IntWalk.i64_in _ (by omega)
            go_wp2
            go_roundw
            case rel => exact ⟨k, (k : Int) - 1, _, _, rfl, by omega, by omega, HR⟩
            case measure => simp [intOf] <;> omega
          | succ j =>
            obtain rfl : j0 = (j : Int) := by omega
            have hjm : j < m1 := by omega
            obtain ⟨k1, hk1⟩ : ∃ a, a = k + 1 := ⟨_, rfl⟩
            obtain ⟨j1, hj1⟩ : ∃ a, a = j + 1 := ⟨_, rfl⟩
            have hk1n : k1 < n1 := by omega
            have hj1m : j1 < m1 := by omega
            have yk : IntKind.i64.wrap ((k : Int) + 1) = (k1 : Int) := by
              rw [show (k : Int) + 1 = (k1 : Int) by omega]; exact IntWalk.i64_in _ (by omega)
            have yj : IntKind.i64.wrap ((j : Int) + 1) = (j1 : Int) := by
              rw [show (j : Int) + 1 = (j1 : Int) by omega]; exact IntWalk.i64_in _ (by omega)
            obtain ⟨g1, g2, g3, g4⟩ := HRW.out.1.2 k1 (by omega) hk1n
            have g4z := Bk.lt g4
            have hrs : r k1 ≠ s := by have := H3.out.2.2.2.2; omega
            have hgO : Bk wr gt 32 n1 (up f k (.slice (some ⟨s, 0, none⟩) m1 m1)) := (hin2.out.2.1.block gt (Bk.lt H3.out.1) hgs hgs).trans H3.out.1
            have hgR : BI wr (r k1) m1 (fun j => (cL u v k1 j : Nat)) := by
              have h9 := H3.out.2.2.2.2
              have h8 := Bk.lt H3.out.2.1
              exact ((hin2.out.2.1.block _ (by omega) hrs hrs).trans (H3.out.2.2.1 _ (by omega) g2)).trans g4
            have hT : Tri gt n1 m1 s (r k1) (up f k (.slice (some ⟨s, 0, none⟩) m1 m1)) (fun j => (cL u v k1 j : Nat)) x wr := ⟨hgO, hgR, hin2.out.1⟩
            have hst := cL_step HUL.out (i := k) (j := j) (u := u) (v := v) (by have := HNM.out; omega) (by have := HNM.out; omega)
            rw [← hk1, ← hj1] at hst
            have ha2 := hin2.out.2.2 j1 hj1m (.inl (by omega))
            obtain ⟨a1, ha1⟩ : ∃ a : Nat, a = cL u v k1 j := ⟨_, rfl⟩
            obtain ⟨a2, ha2'⟩ : ∃ a : Nat, a = cL u v k j1 := ⟨_, rfl⟩
            obtain ⟨a3, ha3⟩ : ∃ a : Nat, a = cL u v k1 j1 := ⟨_, rfl⟩
            have ha3l : a3 ≤ 8 := by rw [ha3]; have := cL_le u v k1 j1; have := HNM.out; omega
            have ya : IntKind.i64.wrap ((a3 : Int) + 1) = (a3 : Int) + 1 := IntWalk.i64_in _ (by omega)
            rw [← ha1, ← ha2', ← ha3] at hst
            rw [← ha2'] at ha2
            obtain ⟨r1, hr1⟩ : ∃ a, a = r k1 := ⟨_, rfl⟩
            rw [← hr1] at hT hrs g1
            have hF0 : up f k (.slice (some ⟨s, 0, none⟩) m1 m1) k = .slice (some ⟨s, 0, none⟩) m1 m1 := up_self _ _ _
            have hF1 : up f k (.slice (some ⟨s, 0, none⟩) m1 m1) k1 = .slice (some ⟨r1, 0, none⟩) m1 m1 := by rw [up_ne _ _ (show k1 ≠ k by omega), g1]
            have hjj : j1 ≠ j := by omega
            have hkn' : k < n1 := by omega
            have HGET : Hid (∀ (x' : Nat → Int) (X : World), x' j1 = a2 → Tri gt n1 m1 s r1 (up f k (.slice (some ⟨s, 0, none⟩) m1 m1)) (fun j => (cL u v k1 j : Nat)) x' X → X.cell? ⟨gt, k, none⟩ = some (.slice (some ⟨s, 0, none⟩) m1 m1) ∧ X.cell? ⟨gt, k1, none⟩ = some (.slice (some ⟨r1, 0, none⟩) m1 m1) ∧ X.cell? ⟨r1, j, none⟩ = some (.int .i64 (a1 : Nat)) ∧ X.cell? ⟨r1, j1, none⟩ = some (.int .i64 (a3 : Nat)) ∧ X.cell? ⟨s, j, none⟩ = some (.int .i64 (x' j)) ∧ X.cell? ⟨s, j1, none⟩ = some (.int .i64 (a2 : Nat)) ∧ X.frozen? ⟨s, j, none⟩ = false ∧ gt < X.heap.size ∧ r1 < X.heap.size ∧ s < X.heap.size) := Lib.hid fun x' X hx' hX =>
              hX.get hkn' hk1n hjm hj1m hF0 hF1 (by rw [ha1]) (by rw [ha3]) rfl hx'
            obtain ⟨d1, hd1⟩ : ∃ d, d = u.getD k 0 := ⟨_, rfl⟩
            obtain ⟨d2, hd2⟩ : ∃ d, d = v.getD j 0 := ⟨_, rfl⟩
            rw [← hd1, ← hd2] at hst
            have hix1 : ∀ h : k < (⟨u.toArray⟩ : ByteArray).size, (⟨u.toArray⟩ : ByteArray)[k] = d1 := fun h => by
              have e : (⟨u.toArray⟩ : ByteArray)[k] = u[k] := rfl
              rw [e, hd1, List.getD_eq_getElem?_getD, List.getElem?_eq_getElem (by have := HNM.out; omega)]; rfl
            have hix2 : ∀ h : j < (⟨v.toArray⟩ : ByteArray).size, (⟨v.toArray⟩ : ByteArray)[j] = d2 := fun h => by
              have e : (⟨v.toArray⟩ : ByteArray)[j] = v[j] := rfl
              rw [e, hd2, List.getD_eq_getElem?_getD, List.getElem?_eq_getElem (by have := HNM.out; omega)]; rfl
            have hjv : j < v.length := by have := HNM.out; omega
            have HIX := Lib.hid (And.intro hix1 hix2)
            have HST := Lib.hid (And.intro hst (And.intro hr1 (And.intro hk1 hj1)))
            have HIN := Lib.hid hin2.out
            have HT := Lib.hid hT
            have HA2 := Lib.hid ha2
            have HRS := Lib.hid hrs
            obtain ⟨co, co1, c1, c3, c0, c2, cf, ozz, rz, sz⟩ := HGET.out x wr ha2 hT
            clear hst hr1 hgO hgR g1 g2 g3 g4 g4z ha1 ha2 ha2' ha3 hin2 hk1 hj1 hrs hT hF0 hF1 hix1 hix2 hd1 hd2 hik hjz
            go_upto_region 9 with fail
            refine wp_region_noPanic ?_
            refine wp_split (S := fun X => Ext wr X) 22 (by kernel_rfl) (by kernel_rfl) (Ext.drw (Ext.refl _)) ?_
            simp only [List.take_succ_cons, List.take_zero, List.drop_succ_cons, List.drop_zero]
            refine take_at 0 (some 38) (.slice (some ⟨gt, 0, none⟩) n1 n1) rfl rfl (by kernel_rfl) (by kernel_rfl) (by kernel_rfl) (fun _ _ _ h => h) (Or.inl ⟨by rfl, fun w' hSw => ?_⟩) (Ext.drw (Ext.refl _)) ?_
            · skip
              try clear hSw
              go_simp
              all_goals (with_reducible rfl)
            try simp only [Act.put, List.setIfInBounds_toArray, List.set_cons_zero, List.set_cons_succ]
            refine take_at 1 (some 39) (.int .i64 (k : Nat)) rfl rfl (by kernel_rfl) (by kernel_rfl) (by kernel_rfl) (fun _ _ _ h => h) (Or.inl ⟨by rfl, fun w' hSw => ?_⟩) (Ext.drw (Ext.refl _)) ?_
            · skip
              try clear hSw
              go_simp
              all_goals (with_reducible rfl)
            try simp only [Act.put, List.setIfInBounds_toArray, List.set_cons_zero, List.set_cons_succ]
            refine take_at 2 (some 40) (.pointer (some ⟨gt, k, none⟩)) rfl rfl (by kernel_rfl) (by kernel_rfl) (by kernel_rfl) (fun _ _ _ h => h) (Or.inl ⟨by rfl, fun w' hSw => ?_⟩) (Ext.drw (Ext.refl _)) ?_
            · skip
              try clear hSw
              go_simp
              all_goals (with_reducible rfl)
            try simp only [Act.put, List.setIfInBounds_toArray, List.set_cons_zero, List.set_cons_succ]
            refine take_at 3 (some 41) (.slice (some ⟨s, 0, none⟩) m1 m1) rfl rfl (by kernel_rfl) (by kernel_rfl) (by kernel_rfl) (fun _ _ _ h => h) (Or.inl ⟨by rfl, fun w' hSw => ?_⟩) (Ext.drw (Ext.refl _)) ?_
            · have z0 := keepAt hSw ozz co
              try clear hSw
              go_simp
              all_goals (with_reducible rfl)
            try simp only [Act.put, List.setIfInBounds_toArray, List.set_cons_zero, List.set_cons_succ]
            refine take_at 4 (some 42) (.int .i64 (j : Nat)) rfl rfl (by kernel_rfl) (by kernel_rfl) (by kernel_rfl) (fun _ _ _ h => h) (Or.inl ⟨by rfl, fun w' hSw => ?_⟩) (Ext.drw (Ext.refl _)) ?_
            · skip
              try clear hSw
              go_simp
              all_goals (with_reducible rfl)
            try simp only [Act.put, List.setIfInBounds_toArray, List.set_cons_zero, List.set_cons_succ]
            refine take_at 5 (some 43) (.slice (some ⟨gt, 0, none⟩) n1 n1) rfl rfl (by kernel_rfl) (by kernel_rfl) (by kernel_rfl) (fun _ _ _ h => h) (Or.inl ⟨by rfl, fun w' hSw => ?_⟩) (Ext.drw (Ext.refl _)) ?_
            · skip
              try clear hSw
              go_simp
              all_goals (with_reducible rfl)
            try simp only [Act.put, List.setIfInBounds_toArray, List.set_cons_zero, List.set_cons_succ]
            refine take_at 6 (some 44) (.int .i64 (k : Nat)) rfl rfl (by kernel_rfl) (by kernel_rfl) (by kernel_rfl) (fun _ _ _ h => h) (Or.inl ⟨by rfl, fun w' hSw => ?_⟩) (Ext.drw (Ext.refl _)) ?_
            · skip
              try clear hSw
              go_simp
              all_goals (with_reducible rfl)
            try simp only [Act.put, List.setIfInBounds_toArray, List.set_cons_zero, List.set_cons_succ]
            refine take_at 7 (some 45) (.int .i64 (k1 : Nat)) rfl rfl (by kernel_rfl) (by kernel_rfl) (by kernel_rfl) (fun _ _ _ h => h) (Or.inl ⟨by rfl, fun w' hSw => ?_⟩) (Ext.drw (Ext.refl _)) ?_
            · skip
              try clear hSw
              go_simp
              all_goals (with_reducible rfl)
            try simp only [Act.put, List.setIfInBounds_toArray, List.set_cons_zero, List.set_cons_succ]
            refine take_at 8 (some 46) (.pointer (some ⟨gt, k1, none⟩)) rfl rfl (by kernel_rfl) (by kernel_rfl) (by kernel_rfl) (fun _ _ _ h => h) (Or.inl ⟨by rfl, fun w' hSw => ?_⟩) (Ext.drw (Ext.refl _)) ?_
            · skip
              try clear hSw
              go_simp
              all_goals (with_reducible rfl)
            try simp only [Act.put, List.setIfInBounds_toArray, List.set_cons_zero, List.set_cons_succ]
            refine take_at 9 (some 47) (.slice (some ⟨r1, 0, none⟩) m1 m1) rfl rfl (by kernel_rfl) (by kernel_rfl) (by kernel_rfl) (fun _ _ _ h => h) (Or.inl ⟨by rfl, fun w' hSw => ?_⟩) (Ext.drw (Ext.refl _)) ?_
            · have z0 := keepAt hSw ozz co1
              try clear hSw
              go_simp
              all_goals (with_reducible rfl)
            try simp only [Act.put, List.setIfInBounds_toArray, List.set_cons_zero, List.set_cons_succ]
            refine take_at 10 (some 48) (.int .i64 (j : Nat)) rfl rfl (by kernel_rfl) (by kernel_rfl) (by kernel_rfl) (fun _ _ _ h => h) (Or.inl ⟨by rfl, fun w' hSw => ?_⟩) (Ext.drw (Ext.refl _)) ?_
            · skip
              try clear hSw
              go_simp
              all_goals (with_reducible rfl)
            try simp only [Act.put, List.setIfInBounds_toArray, List.set_cons_zero, List.set_cons_succ]
            refine take_at 11 (some 49) (.pointer (some ⟨r1, j, none⟩)) rfl rfl (by kernel_rfl) (by kernel_rfl) (by kernel_rfl) (fun _ _ _ h => h) (Or.inl ⟨by rfl, fun w' hSw => ?_⟩) (Ext.drw (Ext.refl _)) ?_
            · skip
              try clear hSw
              go_simp
              all_goals (with_reducible rfl)
            try simp only [Act.put, List.setIfInBounds_toArray, List.set_cons_zero, List.set_cons_succ]
            refine take_at 12 (some 50) (.int .i64 (a1 : Nat)) rfl rfl (by kernel_rfl) (by kernel_rfl) (by kernel_rfl) (fun _ _ _ h => h) (Or.inl ⟨by rfl, fun w' hSw => ?_⟩) (Ext.drw (Ext.refl _)) ?_
            · have z0 := keepAt hSw rz c1
              try clear hSw
              go_simp
              all_goals (with_reducible rfl)
            try simp only [Act.put, List.setIfInBounds_toArray, List.set_cons_zero, List.set_cons_succ]
            refine take_at 13 (some 51) (.slice (some ⟨gt, 0, none⟩) n1 n1) rfl rfl (by kernel_rfl) (by kernel_rfl) (by kernel_rfl) (fun _ _ _ h => h) (Or.inl ⟨by rfl, fun w' hSw => ?_⟩) (Ext.drw (Ext.refl _)) ?_
            · skip
              try clear hSw
              go_simp
              all_goals (with_reducible rfl)
            try simp only [Act.put, List.setIfInBounds_toArray, List.set_cons_zero, List.set_cons_succ]
            refine take_at 14 (some 52) (.int .i64 (k : Nat)) rfl rfl (by kernel_rfl) (by kernel_rfl) (by kernel_rfl) (fun _ _ _ h => h) (Or.inl ⟨by rfl, fun w' hSw => ?_⟩) (Ext.drw (Ext.refl _)) ?_
            · skip
              try clear hSw
              go_simp
              all_goals (with_reducible rfl)
            try simp only [Act.put, List.setIfInBounds_toArray, List.set_cons_zero, List.set_cons_succ]
            refine take_at 15 (some 53) (.pointer (some ⟨gt, k, none⟩)) rfl rfl (by kernel_rfl) (by kernel_rfl) (by kernel_rfl) (fun _ _ _ h => h) (Or.inl ⟨by rfl, fun w' hSw => ?_⟩) (Ext.drw (Ext.refl _)) ?_
            · skip
              try clear hSw
              go_simp
              all_goals (with_reducible rfl)
            try simp only [Act.put, List.setIfInBounds_toArray, List.set_cons_zero, List.set_cons_succ]
            refine take_at 16 (some 54) (.slice (some ⟨s, 0, none⟩) m1 m1) rfl rfl (by kernel_rfl) (by kernel_rfl) (by kernel_rfl) (fun _ _ _ h => h) (Or.inl ⟨by rfl, fun w' hSw => ?_⟩) (Ext.drw (Ext.refl _)) ?_
            · have z0 := keepAt hSw ozz co
              try clear hSw
              go_simp
              all_goals (with_reducible rfl)
            try simp only [Act.put, List.setIfInBounds_toArray, List.set_cons_zero, List.set_cons_succ]
            refine take_at 17 (some 55) (.int .i64 (j : Nat)) rfl rfl (by kernel_rfl) (by kernel_rfl) (by kernel_rfl) (fun _ _ _ h => h) (Or.inl ⟨by rfl, fun w' hSw => ?_⟩) (Ext.drw (Ext.refl _)) ?_
            · skip
              try clear hSw
              go_simp
              all_goals (with_reducible rfl)
            try simp only [Act.put, List.setIfInBounds_toArray, List.set_cons_zero, List.set_cons_succ]
            refine take_at 18 (some 56) (.int .i64 (j1 : Nat)) rfl rfl (by kernel_rfl) (by kernel_rfl) (by kernel_rfl) (fun _ _ _ h => h) (Or.inl ⟨by rfl, fun w' hSw => ?_⟩) (Ext.drw (Ext.refl _)) ?_
            · skip
              try clear hSw
              go_simp
              all_goals (with_reducible rfl)
            try simp only [Act.put, List.setIfInBounds_toArray, List.set_cons_zero, List.set_cons_succ]
            refine take_at 19 (some 57) (.pointer (some ⟨s, j1, none⟩)) rfl rfl (by kernel_rfl) (by kernel_rfl) (by kernel_rfl) (fun _ _ _ h => h) (Or.inl ⟨by rfl, fun w' hSw => ?_⟩) (Ext.drw (Ext.refl _)) ?_
            · skip
              try clear hSw
              go_simp
              all_goals (with_reducible rfl)
            try simp only [Act.put, List.setIfInBounds_toArray, List.set_cons_zero, List.set_cons_succ]
            refine take_at 20 (some 58) (.int .i64 (a2 : Nat)) rfl rfl (by kernel_rfl) (by kernel_rfl) (by kernel_rfl) (fun _ _ _ h => h) (Or.inl ⟨by rfl, fun w' hSw => ?_⟩) (Ext.drw (Ext.refl _)) ?_
            · have z0 := keepAt hSw sz c2
              try clear hSw
              go_simp
              all_goals (with_reducible rfl)
            try simp only [Act.put, List.setIfInBounds_toArray, List.set_cons_zero, List.set_cons_succ]
            refine take_at 21 (some 59) (.int .i64 (max (a1 : Int) (a2 : Int))) rfl rfl (by kernel_rfl) (by kernel_rfl) (by kernel_rfl) (fun _ _ _ h => h) (Or.inl ⟨by rfl, fun w' hSw => ?_⟩) (Ext.drw (Ext.refl _)) ?_
            · skip
              try clear hSw
              go_simp
              all_goals (with_reducible rfl)
            try simp only [Act.put, List.setIfInBounds_toArray, List.set_cons_zero, List.set_cons_succ]
            refine wpAnyH_done (by kernel_rfl) ?_ _
            refine cut_normal ?_
            go_wp2_with fail
            refine NoPanic.normal ?_
            obtain ⟨mx, hmx⟩ : ∃ a : Nat, a = max a1 a2 := ⟨_, rfl⟩
            have hmx2 : max (a1 : Int) (a2 : Int) = (mx : Int) := by omega
            rw [hmx2]
            have hT5 : Tri gt n1 m1 s r1 (up f k (.slice (some ⟨s, 0, none⟩) m1 m1)) (fun j => (cL u v k1 j : Nat)) (up x j (mx : Int)) (wr.setCell ⟨s, j, none⟩ (.int .i64 (mx : Int))).drew := (HT.out.st hgs HRS.out j mx).drw
            have hK5 : Kq s s w3 (wr.setCell ⟨s, j, none⟩ (.int .i64 (mx : Int))).drew := (HIN.out.2.1.sc (i := j) (.int .i64 (mx : Int)) (.inr (.inl rfl))).drw
            generalize (wr.setCell ⟨s, j, none⟩ (.int .i64 (mx : Int))).drew = w5 at *
            have HTK := Lib.hid (And.intro hT5 hK5)
            have HMX := Lib.hid hmx
            clear co co1 c1 c3 c0 c2 cf ozz rz sz hT5 hK5 hmx hmx2
            have hix1 := HIX.out.1
            have hix2 := HIX.out.2
            go_upto_region 10 with fail
            go_region
            clear hix1 hix2
            replace HTK : Hid (Tri gt n1 m1 s r1 (up f k (.slice (some ⟨s, 0, none⟩) m1 m1)) (fun j => (cL u v k1 j : Nat)) (up x j (mx : Int)) w5.drew ∧ Kq s s w3 w5.drew) := Lib.hid ⟨HTK.out.1.drw, HTK.out.2.drw⟩
            generalize w5.drew = w6 at *
            have yj2 : IntKind.i64.wrap ((j : Int) - 1) = (j : Int) - 1 := IntWalk.i64_in _ (by omega)
            by_cases hdd : d1 = d2
            · have hb : ((d1.toNat : Int) == (d2.toNat : Int)) = true := by rw [hdd]; simp
              have HDD := Lib.hid hdd
              clear hdd
              obtain ⟨co, co1, c1, c3, c0, c2, cf, ozz, rz, sz⟩ := HGET.out _ w6 (by rw [up_ne _ _ hjj]; exact HA2.out) HTK.out.1
              rw [up_self] at c0
              go_upto_region 11 with fail
              clear hb
              refine wp_region_noPanic ?_
              refine wp_split (S := fun X => Ext w6 X) 23 (by kernel_rfl) (by kernel_rfl) (Ext.drw (Ext.refl _)) ?_
              simp only [List.take_succ_cons, List.take_zero, List.drop_succ_cons, List.drop_zero]
              refine take_at 0 (some 68) (.slice (some ⟨gt, 0, none⟩) n1 n1) rfl rfl (by kernel_rfl) (by kernel_rfl) (by kernel_rfl) (fun _ _ _ h => h) (Or.inl ⟨by rfl, fun w' hSw => ?_⟩) (Ext.drw (Ext.refl _)) ?_
              · skip
                try clear hSw
                go_simp
                all_goals (with_reducible rfl)
              try simp only [Act.put, List.setIfInBounds_toArray, List.set_cons_zero, List.set_cons_succ]
              refine take_at 1 (some 69) (.int .i64 (k : Nat)) rfl rfl (by kernel_rfl) (by kernel_rfl) (by kernel_rfl) (fun _ _ _ h => h) (Or.inl ⟨by rfl, fun w' hSw => ?_⟩) (Ext.drw (Ext.refl _)) ?_
              · skip
                try clear hSw
                go_simp
                all_goals (with_reducible rfl)
              try simp only [Act.put, List.setIfInBounds_toArray, List.set_cons_zero, List.set_cons_succ]
              refine take_at 2 (some 70) (.pointer (some ⟨gt, k, none⟩)) rfl rfl (by kernel_rfl) (by kernel_rfl) (by kernel_rfl) (fun _ _ _ h => h) (Or.inl ⟨by rfl, fun w' hSw => ?_⟩) (Ext.drw (Ext.refl _)) ?_
              · skip
                try clear hSw
                go_simp
                all_goals (with_reducible rfl)
              try simp only [Act.put, List.setIfInBounds_toArray, List.set_cons_zero, List.set_cons_succ]
              refine take_at 3 (some 71) (.slice (some ⟨s, 0, none⟩) m1 m1) rfl rfl (by kernel_rfl) (by kernel_rfl) (by kernel_rfl) (fun _ _ _ h => h) (Or.inl ⟨by rfl, fun w' hSw => ?_⟩) (Ext.drw (Ext.refl _)) ?_
              · have z0 := keepAt hSw ozz co
                try clear hSw
                go_simp
                all_goals (with_reducible rfl)
              try simp only [Act.put, List.setIfInBounds_toArray, List.set_cons_zero, List.set_cons_succ]
              refine take_at 4 (some 72) (.int .i64 (j : Nat)) rfl rfl (by kernel_rfl) (by kernel_rfl) (by kernel_rfl) (fun _ _ _ h => h) (Or.inl ⟨by rfl, fun w' hSw => ?_⟩) (Ext.drw (Ext.refl _)) ?_
              · skip
                try clear hSw
                go_simp
                all_goals (with_reducible rfl)
              try simp only [Act.put, List.setIfInBounds_toArray, List.set_cons_zero, List.set_cons_succ]
              refine take_at 5 (some 73) (.slice (some ⟨gt, 0, none⟩) n1 n1) rfl rfl (by kernel_rfl) (by kernel_rfl) (by kernel_rfl) (fun _ _ _ h => h) (Or.inl ⟨by rfl, fun w' hSw => ?_⟩) (Ext.drw (Ext.refl _)) ?_
              · skip
                try clear hSw
                go_simp
                all_goals (with_reducible rfl)
              try simp only [Act.put, List.setIfInBounds_toArray, List.set_cons_zero, List.set_cons_succ]
              refine take_at 6 (some 74) (.int .i64 (k : Nat)) rfl rfl (by kernel_rfl) (by kernel_rfl) (by kernel_rfl) (fun _ _ _ h => h) (Or.inl ⟨by rfl, fun w' hSw => ?_⟩) (Ext.drw (Ext.refl _)) ?_
              · skip
                try clear hSw
                go_simp
                all_goals (with_reducible rfl)
              try simp only [Act.put, List.setIfInBounds_toArray, List.set_cons_zero, List.set_cons_succ]
              refine take_at 7 (some 75) (.pointer (some ⟨gt, k, none⟩)) rfl rfl (by kernel_rfl) (by kernel_rfl) (by kernel_rfl) (fun _ _ _ h => h) (Or.inl ⟨by rfl, fun w' hSw => ?_⟩) (Ext.drw (Ext.refl _)) ?_
              · skip
                try clear hSw
                go_simp
                all_goals (with_reducible rfl)
              try simp only [Act.put, List.setIfInBounds_toArray, List.set_cons_zero, List.set_cons_succ]
              refine take_at 8 (some 76) (.slice (some ⟨s, 0, none⟩) m1 m1) rfl rfl (by kernel_rfl) (by kernel_rfl) (by kernel_rfl) (fun _ _ _ h => h) (Or.inl ⟨by rfl, fun w' hSw => ?_⟩) (Ext.drw (Ext.refl _)) ?_
              · have z0 := keepAt hSw ozz co
                try clear hSw
                go_simp
                all_goals (with_reducible rfl)
              try simp only [Act.put, List.setIfInBounds_toArray, List.set_cons_zero, List.set_cons_succ]
              refine take_at 9 (some 77) (.int .i64 (j : Nat)) rfl rfl (by kernel_rfl) (by kernel_rfl) (by kernel_rfl) (fun _ _ _ h => h) (Or.inl ⟨by rfl, fun w' hSw => ?_⟩) (Ext.drw (Ext.refl _)) ?_
              · skip
                try clear hSw
                go_simp
                all_goals (with_reducible rfl)
              try simp only [Act.put, List.setIfInBounds_toArray, List.set_cons_zero, List.set_cons_succ]
              refine take_at 10 (some 78) (.pointer (some ⟨s, j, none⟩)) rfl rfl (by kernel_rfl) (by kernel_rfl) (by kernel_rfl) (fun _ _ _ h => h) (Or.inl ⟨by rfl, fun w' hSw => ?_⟩) (Ext.drw (Ext.refl _)) ?_
              · skip
                try clear hSw
                go_simp
                all_goals (with_reducible rfl)
              try simp only [Act.put, List.setIfInBounds_toArray, List.set_cons_zero, List.set_cons_succ]
              refine take_at 11 (some 79) (.int .i64 (mx : Nat)) rfl rfl (by kernel_rfl) (by kernel_rfl) (by kernel_rfl) (fun _ _ _ h => h) (Or.inl ⟨by rfl, fun w' hSw => ?_⟩) (Ext.drw (Ext.refl _)) ?_
              · have z0 := keepAt hSw sz c0
                try clear hSw
                go_simp
                all_goals (with_reducible rfl)
              try simp only [Act.put, List.setIfInBounds_toArray, List.set_cons_zero, List.set_cons_succ]
              refine take_at 12 (some 80) (.slice (some ⟨gt, 0, none⟩) n1 n1) rfl rfl (by kernel_rfl) (by kernel_rfl) (by kernel_rfl) (fun _ _ _ h => h) (Or.inl ⟨by rfl, fun w' hSw => ?_⟩) (Ext.drw (Ext.refl _)) ?_
              · skip
                try clear hSw
                go_simp
                all_goals (with_reducible rfl)
              try simp only [Act.put, List.setIfInBounds_toArray, List.set_cons_zero, List.set_cons_succ]
              refine take_at 13 (some 81) (.int .i64 (k : Nat)) rfl rfl (by kernel_rfl) (by kernel_rfl) (by kernel_rfl) (fun _ _ _ h => h) (Or.inl ⟨by rfl, fun w' hSw => ?_⟩) (Ext.drw (Ext.refl _)) ?_
              · skip
                try clear hSw
                go_simp
                all_goals (with_reducible rfl)
              try simp only [Act.put, List.setIfInBounds_toArray, List.set_cons_zero, List.set_cons_succ]
              refine take_at 14 (some 82) (.int .i64 (k1 : Nat)) rfl rfl (by kernel_rfl) (by kernel_rfl) (by kernel_rfl) (fun _ _ _ h => h) (Or.inl ⟨by rfl, fun w' hSw => ?_⟩) (Ext.drw (Ext.refl _)) ?_
              · skip
                try clear hSw
                go_simp
                all_goals (with_reducible rfl)
              try simp only [Act.put, List.setIfInBounds_toArray, List.set_cons_zero, List.set_cons_succ]
              refine take_at 15 (some 83) (.pointer (some ⟨gt, k1, none⟩)) rfl rfl (by kernel_rfl) (by kernel_rfl) (by kernel_rfl) (fun _ _ _ h => h) (Or.inl ⟨by rfl, fun w' hSw => ?_⟩) (Ext.drw (Ext.refl _)) ?_
              · skip
                try clear hSw
                go_simp
                all_goals (with_reducible rfl)
              try simp only [Act.put, List.setIfInBounds_toArray, List.set_cons_zero, List.set_cons_succ]
              refine take_at 16 (some 84) (.slice (some ⟨r1, 0, none⟩) m1 m1) rfl rfl (by kernel_rfl) (by kernel_rfl) (by kernel_rfl) (fun _ _ _ h => h) (Or.inl ⟨by rfl, fun w' hSw => ?_⟩) (Ext.drw (Ext.refl _)) ?_
              · have z0 := keepAt hSw ozz co1
                try clear hSw
                go_simp
                all_goals (with_reducible rfl)
              try simp only [Act.put, List.setIfInBounds_toArray, List.set_cons_zero, List.set_cons_succ]
              refine take_at 17 (some 85) (.int .i64 (j : Nat)) rfl rfl (by kernel_rfl) (by kernel_rfl) (by kernel_rfl) (fun _ _ _ h => h) (Or.inl ⟨by rfl, fun w' hSw => ?_⟩) (Ext.drw (Ext.refl _)) ?_
              · skip
                try clear hSw
                go_simp
                all_goals (with_reducible rfl)
              try simp only [Act.put, List.setIfInBounds_toArray, List.set_cons_zero, List.set_cons_succ]
              refine take_at 18 (some 86) (.int .i64 (j1 : Nat)) rfl rfl (by kernel_rfl) (by kernel_rfl) (by kernel_rfl) (fun _ _ _ h => h) (Or.inl ⟨by rfl, fun w' hSw => ?_⟩) (Ext.drw (Ext.refl _)) ?_
              · skip
                try clear hSw
                go_simp
                all_goals (with_reducible rfl)
              try simp only [Act.put, List.setIfInBounds_toArray, List.set_cons_zero, List.set_cons_succ]
              refine take_at 19 (some 87) (.pointer (some ⟨r1, j1, none⟩)) rfl rfl (by kernel_rfl) (by kernel_rfl) (by kernel_rfl) (fun _ _ _ h => h) (Or.inl ⟨by rfl, fun w' hSw => ?_⟩) (Ext.drw (Ext.refl _)) ?_
              · skip
                try clear hSw
                go_simp
                all_goals (with_reducible rfl)
              try simp only [Act.put, List.setIfInBounds_toArray, List.set_cons_zero, List.set_cons_succ]
              refine take_at 20 (some 88) (.int .i64 (a3 : Nat)) rfl rfl (by kernel_rfl) (by kernel_rfl) (by kernel_rfl) (fun _ _ _ h => h) (Or.inl ⟨by rfl, fun w' hSw => ?_⟩) (Ext.drw (Ext.refl _)) ?_
              · have z0 := keepAt hSw rz c3
                try clear hSw
                go_simp
                all_goals (with_reducible rfl)
              try simp only [Act.put, List.setIfInBounds_toArray, List.set_cons_zero, List.set_cons_succ]
              refine take_at 21 (some 89) (.int .i64 ((a3 : Int) + 1)) rfl rfl (by kernel_rfl) (by kernel_rfl) (by kernel_rfl) (fun _ _ _ h => h) (Or.inl ⟨by rfl, fun w' hSw => ?_⟩) (Ext.drw (Ext.refl _)) ?_
              · skip
                try clear hSw
                go_simp
                all_goals (with_reducible rfl)
              try simp only [Act.put, List.setIfInBounds_toArray, List.set_cons_zero, List.set_cons_succ]
              refine take_at 22 (some 90) (.int .i64 (max (mx : Int) ((a3 : Int) + 1))) rfl rfl (by kernel_rfl) (by kernel_rfl) (by kernel_rfl) (fun _ _ _ h => h) (Or.inl ⟨by rfl, fun w' hSw => ?_⟩) (Ext.drw (Ext.refl _)) ?_
              · skip
                try clear hSw
                go_simp
                all_goals (with_reducible rfl)
              try simp only [Act.put, List.setIfInBounds_toArray, List.set_cons_zero, List.set_cons_succ]
              refine wpAnyH_done (by kernel_rfl) ?_ _
              refine cut_normal ?_
              go_wp2_with fail
              refine NoPanic.normal ?_
              have hv : max (mx : Int) ((a3 : Int) + 1) = (max mx (a3 + 1) : Nat) := by omega
              have hT7 : Tri gt n1 m1 s r1 (up f k (.slice (some ⟨s, 0, none⟩) m1 m1)) (fun j => (cL u v k1 j : Nat)) (up (up x j (mx : Int)) j (max (mx : Int) ((a3 : Int) + 1))) (w6.setCell ⟨s, j, none⟩ (.int .i64 (max (mx : Int) ((a3 : Int) + 1)))).drew := (HTK.out.1.st hgs HRS.out j _).drw
              have hK7 : Kq s s w3 (w6.setCell ⟨s, j, none⟩ (.int .i64 (max (mx : Int) ((a3 : Int) + 1)))).drew := (HTK.out.2.sc (i := j) _ (.inr (.inl rfl))).drw
              generalize (w6.setCell ⟨s, j, none⟩ (.int .i64 (max (mx : Int) ((a3 : Int) + 1)))).drew = w7 at *
              have HF := Lib.hid (And.intro hT7.2.2 (And.intro hK7 hv))
              clear hT7 hK7 hv co co1 c1 c3 c0 c2 cf ozz rz sz
              go_wp2
              go_roundw
              case rel =>
                refine ⟨j, (j : Int) - 1, _, rfl, by omega, by omega, Lib.hid ⟨HF.out.1, HF.out.2.1, fun j' hj' hz' => ?_⟩⟩
                by_cases e : j' = j
                · subst e; rw [up_self, HF.out.2.2, HST.out.1, if_pos HDD.out, HMX.out]
                · rw [up_ne _ _ e, up_ne _ _ e]; exact HIN.out.2.2 j' hj' (by omega)
              case measure => simp [intOf] <;> omega
            · have hb : ((d1.toNat : Int) == (d2.toNat : Int)) = false := by
                simp only [beq_eq_false_iff_ne, ne_eq]
                intro h
                exact hdd (UInt8.toNat_inj.1 (by omega))
              have HDD := Lib.hid hdd
              clear hdd
              go_wp2
              go_roundw
              case rel =>
                refine ⟨j, (j : Int) - 1, _, rfl, by omega, by omega, Lib.hid ⟨HTK.out.1.2.2, HTK.out.2, fun j' hj' hz' => ?_⟩⟩
                by_cases e : j' = j
                · subst e; rw [up_self, HST.out.1, if_neg HDD.out, HMX.out]
                · rw [up_ne _ _ e]; exact HIN.out.2.2 j' hj' (by omega)
              case measure => simp [intOf] <;> omega
end Go.Proofs.YtlachbodibajlaaDoor
