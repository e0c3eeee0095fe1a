/- Walks: a guessed digit of a quotient. -/
import Derived.Test.YtmlopkkbgpfdnaaX2
namespace Go.Proofs.Ytmlopkkbgpfdnaa
open Go.RowKit

def GuessOk (U D : Nat) (w : World) (e : Ending) (w' : World) : Prop := ∃ g : Nat, e = .returned (.int .u32 g) ∧ g < 4294967296 ∧ U / D ≤ g ∧ g ≤ U / D + 1 ∧ ∃ k, w' = w.drewN k

def GRel (h v1 Q : Nat) (a b : Value) : Prop := ∃ g r : Nat, a = .int .u64 g ∧ b = .int .u64 r ∧ h = g * v1 + r ∧ Q ≤ g ∧ g < 8589934592 ∧ r < 8589934592

theorem g_step {h g r v1 Q : Nat} (hgr : h = g * v1 + r) (hQ : Q < g) (hg : g < 8589934592) (hr : r < 4294967296) (hv : v1 < 4294967296) : GRel h v1 Q (.int .u64 ((g : Int) - 1)) (.int .u64 ((r : Int) + v1)) := by
  obtain ⟨j, rfl⟩ : ∃ j, g = j + 1 := ⟨g - 1, by omega⟩
  refine ⟨j, r + v1, ?_, ?_, ?_, by omega, by omega, by omega⟩
  · rw [show ((j + 1 : Nat) : Int) - 1 = j by omega]
  · rw [Int.natCast_add]
  · rw [hgr, Nat.succ_mul]; omega

set_option maxRecDepth 100000 in
theorem guess_any (U D P u0 u1 u2 ul v1 v2 dl n gd od gp op cd cp : Nat) (w : World) (hn : 2 ≤ n) (hn2 : n ≤ 1000000)
    (kd : KD U D P (u0 * 4294967296 + u1) u2 ul v1 v2 dl) (hu0 : u0 < 4294967296) (hu1 : u1 < 4294967296)
    (c1 : w.cell? ⟨gd, od + (n - 1), none⟩ = some (.int .u32 v1)) (c2 : w.cell? ⟨gd, od + (n - 2), none⟩ = some (.int .u32 v2))
    (c3 : w.cell? ⟨gp, op + n, none⟩ = some (.int .u32 u0)) (c4 : w.cell? ⟨gp, op + (n - 1), none⟩ = some (.int .u32 u1)) (c5 : w.cell? ⟨gp, op + (n - 2), none⟩ = some (.int .u32 u2)) :
    Calls Try.prog 118 #[.slice (some ⟨gp, op, none⟩) (n + 1) cp, .slice (some ⟨gd, od, none⟩) n cd] w (GuessOk U D w) := by
  have hor := or_words hu0 hu1
  have hv1 := kd.v1_ge
  have hv1' := kd.v1_lt
  have hv2 := kd.v2_lt
  have hu2 := kd.u2_lt
  obtain ⟨h, hh⟩ : ∃ h, h = u0 * 4294967296 + u1 := ⟨_, rfl⟩
  rw [← hh] at kd hor
  have hhl : h < 18446744073709551616 := by omega
  have Hor := Lib.hid hor; clear hor hh
  have HK := Lib.hid kd; clear kd
  have g0 : h / v1 < 8589934592 := by
    rw [Nat.div_lt_iff_lt_mul (by omega)]
    have : 8589934592 * 2147483648 ≤ 8589934592 * v1 := Nat.mul_le_mul_left _ hv1
    omega
  have r0 : h % v1 < v1 := Nat.mod_lt _ (by omega)
  have gr : h = h / v1 * v1 + h % v1 := by rw [Nat.mul_comm]; exact (Nat.div_add_mod _ _).symm
  obtain ⟨gg, hgg⟩ : ∃ q, q = h / v1 := ⟨_, rfl⟩
  obtain ⟨rr, hrr⟩ : ∃ r, r = h % v1 := ⟨_, rfl⟩
  have hst := HK.out.start
  rw [← hgg] at g0 gr hst
  rw [← hrr] at r0 gr
  have e1 : (h : Int) / v1 = (gg : Int) := by rw [hgg]; omega
  have e2 : (h : Int) % v1 = (rr : Int) := by rw [hrr]; omega
  clear hgg hrr
  have e3 : IntKind.u64.wrap (gg : Int) = (gg : Int) := by rw [IntKind.wrap_u64]; omega
  have E1 := Lib.hid e1; clear e1
  have E2 := Lib.hid e2; clear e2
  have E3 := Lib.hid e3; clear e3
  have Gr := Lib.hid gr; clear gr
  have Hst := Lib.hid hst; clear hst
  have d2 : ((v1 : Int) == 0) = false := by simp; omega
  have b1 : (0 : Int) < v1 := by omega
  have b2 : (1 : Int) ≤ v1 := by omega
  have b3 : (0 : Int) ≤ h := by omega
  go_enter Try.func118, Try.ntmps118
  go_wp2_with fail
  have i1 : IntKind.i64.wrap ((n : Int) - 1) = (n : Int) - 1 := IntWalk.i64_in _ (by omega)
  have i2 : IntKind.i64.wrap ((n : Int) - 2) = (n : Int) - 2 := IntWalk.i64_in _ (by omega)
  have i3 : ((n : Int) - 1).toNat = n - 1 := by omega
  have i4 : ((n : Int) - 2).toNat = n - 2 := by omega
  have i5 : 0 ≤ (n : Int) - 1 := by omega
  have i6 : 0 ≤ (n : Int) - 2 := by omega
  go_quiet (fail)
  go_wp2_with fail
  go_quiet (fail)
  rw [Hor.out]
  clear i1 i2 i3 i4 i5 i6
  go_wp2_with fail
  go_quiet (fail)
  rw [E1.out, E2.out, E3.out]
  go_wp2_with fail
  go_loop [9, 10] (fun a b => GRel h v1 (U / D) a b) (fun _ b => (8589934592 - intOf b).toNat)
  case atStart => exact ⟨gg, rr, rfl, rfl, Gr.out, Hst.out, g0, by omega⟩
  case round =>
    obtain ⟨g, r, rfl, rfl, hgr, hqg, hg, hr⟩ := hrel
    have Hgr := Lib.hid hgr; clear hgr
    have Hqg := Lib.hid hqg; clear hqg
    by_cases hA : 4294967296 ≤ r
    · obtain ⟨hgl, hge⟩ := HK.out.rest Hgr.out hA Hqg.out
      have Hge := Lib.hid hge; clear hge
      have f1 : decide ((r : Int) ≤ 4294967295) = false := by simp; omega
      go_wp2
      go_ret
      exact ⟨g, rfl, hgl, Hqg.out, by rw [Hge.out]; omega, _, rfl⟩
    · have hr' : r < 4294967296 := by omega
      have f1 : decide ((r : Int) ≤ 4294967295) = true := by simp; omega
      by_cases hB : 4294967296 ≤ g
      · have hq := HK.out.q_lt
        have hg1 : U / D < g := by omega
        have Hg1 := Lib.hid hg1; clear hg1 hq
        have f2 : decide ((4294967295 : Int) < g) = true := by simp; omega
        go_wp2
        go_round
        case rel => exact g_step Hgr.out Hg1.out hg hr' hv1'
        case measure => simp [intOf]; omega
      · have hg' : g < 4294967296 := by omega
        have f2 : decide ((4294967295 : Int) < g) = false := by simp; omega
        have hor2 := or_words hr' hu2
        have hprod : g * v2 < 18446744073709551616 := by
          have : g * v2 ≤ 4294967295 * 4294967295 := Nat.mul_le_mul (by omega) (by omega)
          omega
        have hprod2 : (g : Int) * v2 < 18446744073709551616 := by rw [← Int.natCast_mul]; omega
        have hprod3 : (0 : Int) ≤ (g : Int) * v2 := by rw [← Int.natCast_mul]; omega
        have Hor2 := Lib.hid hor2; clear hor2
        by_cases hC : r * 4294967296 + u2 < g * v2
        · have hq := HK.out.high Hgr.out hC
          have hg0 : 1 ≤ g := Nat.lt_of_le_of_lt (Nat.zero_le _) hq
          have hd : decide (bits BinOp.or IntKind.u64 ((r : Int) * 4294967296) (u2 : Int) < (g : Int) * v2) = true := by rw [Hor2.out, ← Int.natCast_mul]; simp only [decide_eq_true_eq]; omega
          have Hq := Lib.hid hq; clear hq hC
          go_wp2
          go_round
          case rel => exact g_step Hgr.out Hq.out hg hr' hv1'
          case measure => simp [intOf]; omega
        · have hd : decide (bits BinOp.or IntKind.u64 ((r : Int) * 4294967296) (u2 : Int) < (g : Int) * v2) = false := by rw [Hor2.out, ← Int.natCast_mul]; simp only [decide_eq_false_iff_not]; omega
          have h1 := HK.out.one Hgr.out (Nat.le_of_not_lt hC) hg'
          have H1 := Lib.hid h1; clear h1 hC
          go_wp2
          go_ret
          exact ⟨g, rfl, hg', Hqg.out, H1.out, _, rfl⟩
end Go.Proofs.Ytmlopkkbgpfdnaa
