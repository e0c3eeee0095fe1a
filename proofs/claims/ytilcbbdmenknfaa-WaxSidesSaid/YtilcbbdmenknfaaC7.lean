/- Walks: surplus, rest.flow. -/
import Derived.Test.YtilcbbdmenknfaaC6
namespace Go.Proofs.Ytilcbbdmenknfaa
open Go.RowKit

theorem sm_bd {n : Nat} {f : Nat → Int} {B : Int} (h : ∀ i, i < n → -B ≤ f i ∧ f i ≤ B) : -(n * B) ≤ sm n f ∧ sm n f ≤ n * B := by
  induction n with
  | zero => simp [sm]
  | succ n ih =>
    have h1 := ih (fun i hi => h i (by omega))
    have h2 := h n (by omega)
    simp only [sm]
    rw [Int.natCast_add, Int.add_mul]
    omega
/-- the arc of a slice of arcs -/
theorem Al.arc {W X : World} {A : Option Addr} {n c : Nat} {a : Ar} (h : Al W (.slice A n c) a) (e : Ext W X) {k : Nat} (hk : k < a.n) : ∃ b off, A = some ⟨b, off, none⟩ ∧ X.cell? ⟨b, off + k * 3, none⟩ = some (.int .i64 (a.f k)) ∧ X.cell? ⟨b, off + k * 3 + 1, none⟩ = some (.int .i64 (a.t k)) ∧ X.cell? ⟨b, off + k * 3 + 2, none⟩ = some (.int .i64 (a.c k)) := by
  obtain ⟨A', c', e', _, _, h3⟩ := h
  injection e' with e1 e2 e3
  subst e1
  obtain ⟨b, off, rfl, hb, hc⟩ := h3 (by omega)
  exact ⟨b, off, rfl, keepAt e hb (hc k hk).1, keepAt e hb (hc k hk).2.1, keepAt e hb (hc k hk).2.2⟩

/-- one term of a surplus -/
def tm (a : Ar) (f : Nat → Int) (v : Nat) (k : Nat) : Int := (if (a.f k).toNat = v then f k else 0) - (if (a.t k).toNat = v then f k else 0)
theorem sp_tm (a : Ar) (f : Nat → Int) (v : Nat) : a.nw.sp f v = sm a.n (tm a f v) := rfl

set_option maxHeartbeats 4000000 in
set_option maxRecDepth 100000 in
theorem surplus_any (a : Ar) (N v : Nat) (M : Int) (f : Nat → Int) (AV FV : Value) (W : World) (hA : Al W AV a) (hF : Il W FV a.n f) (hO : a.Ok N M) (hn : a.n ≤ 1000) (hf : ∀ k, k < a.n → 0 ≤ f k ∧ f k ≤ 2000000) :
    Calls Try.prog 56 #[AV, FV, .int .i64 v] W fun e W' => e = .returned (.int .i64 (a.nw.sp f v)) ∧ Ext W W' := by
  rw [sp_tm]
  have hb := fun k (hk : k ≤ a.n) => sm_bd (n := k) (f := tm a f v) (B := 2000000) (fun i hi => by
    have := hf i (by omega)
    unfold tm; split <;> split <;> omega)
  have HA := Lib.hid hA; have HO := Lib.hid hO; have HF := Lib.hid hF; have Hf := Lib.hid hf; have HB := Lib.hid hb
  clear hO hf hb
  obtain ⟨A, c, rfl, hac, hcm, -⟩ := hA
  obtain ⟨A2, c2, rfl, hac2, hcm2, -⟩ := hF
  go_enter Try.func56, Try.ntmps56
  go_wp2_with fail
  go_loopw [7, 12] (fun s i wr => ∃ k : Nat, i = .int .i64 k ∧ k ≤ a.n ∧ s = .int .i64 (sm k (tm a f v)) ∧ Hid (Ext W wr)) (fun _ i _ => a.n - (intOf i).toNat)
  case atStart => exact ⟨0, rfl, Nat.zero_le _, rfl, Lib.hid (Ext.refl _)⟩
  case round =>
    obtain ⟨k, rfl, hk, rfl, hin⟩ := hrel
    by_cases hlt : k < a.n
    · obtain ⟨b, off, rfl, d1, d2, d3⟩ := HA.out.arc hin.out hlt
      obtain ⟨A3, c3, e3, -, -, h3⟩ := HF.out
      injection e3 with e3 _ _
      subst e3
      obtain ⟨b2, off2, rfl, hb2, hc2⟩ := h3 (by omega)
      have d4 := keepAt hin.out hb2 (hc2 k hlt)
      have hb3 : b2 < wr.heap.size := Nat.lt_of_lt_of_le hb2 hin.out.size
      have f0 := HO.out.f0 k hlt
      have t0 := HO.out.t0 k hlt
      have hfk := Hf.out k hlt
      have hs := HB.out k hk
      have hs1 := HB.out (k + 1) (by omega)
      have hsm : sm (k + 1) (tm a f v) = sm k (tm a f v) + tm a f v k := rfl
      have htm : tm a f v k = (if a.f k = v then f k else 0) - (if a.t k = v then f k else 0) := by
        unfold tm
        by_cases e1 : a.f k = v <;> by_cases e2 : a.t k = v <;> simp only [e1, e2, if_true, if_false, Int.toNat_natCast] <;> (try rw [if_neg (by omega)]) <;> (try rw [if_neg (by omega)])
      rw [hsm, htm] at hs1
      obtain ⟨S, hS⟩ : ∃ S, S = sm k (tm a f v) := ⟨_, rfl⟩
      rw [← hS] at hs hs1 ⊢
      obtain ⟨fk, hfk'⟩ : ∃ x, x = a.f k := ⟨_, rfl⟩
      obtain ⟨tk, htk⟩ : ∃ x, x = a.t k := ⟨_, rfl⟩
      obtain ⟨ck, hck⟩ : ∃ x, x = a.c k := ⟨_, rfl⟩
      obtain ⟨xk, hxk⟩ : ∃ x, x = f k := ⟨_, rfl⟩
      rw [← hfk', ← htk, ← hxk] at htm hs1
      rw [← hfk'] at d1 f0; rw [← htk] at d2 t0; rw [← hck] at d3
      simp only [← hxk] at d4 hfk
      have HTM := Lib.hid htm; have HSM := Lib.hid hsm; have HS := Lib.hid hS
      clear htm hsm hS hfk' htk hck hxk hc2 h3
      have hkk : k * 2000000 ≤ 2000000000 := by have : k * 2000000 ≤ 1000 * 2000000 := Nat.mul_le_mul_right _ (by omega); omega
      have hS1 : -2000000000 ≤ S ∧ S ≤ 2000000000 := by omega
      clear hs hs1 hkk
      by_cases e1 : fk = v
      · by_cases e2 : tk = v
        · have e1' := e1; have e2' := e2
          rw [if_pos e1, if_pos e2] at HTM
          go_wp2
          go_roundw
          case rel => exact ⟨k + 1, by go_num, by omega, by rw [HSM.out, HTM.out, ← HS.out]; congr 1; omega, Lib.hid (hin.out.alc _)⟩
          case measure => simp [intOf]; omega
        · rw [if_pos e1, if_neg e2] at HTM
          go_wp2
          go_roundw
          case rel => exact ⟨k + 1, by go_num, by omega, by rw [HSM.out, HTM.out, ← HS.out]; congr 1; omega, Lib.hid (hin.out.alc _)⟩
          case measure => simp [intOf]; omega
      · by_cases e2 : tk = v
        · rw [if_neg e1, if_pos e2] at HTM
          go_wp2
          go_roundw
          case rel => exact ⟨k + 1, by go_num, by omega, by rw [HSM.out, HTM.out, ← HS.out]; congr 1; omega, Lib.hid (hin.out.alc _)⟩
          case measure => simp [intOf]; omega
        · rw [if_neg e1, if_neg e2] at HTM
          go_wp2
          go_roundw
          case rel => exact ⟨k + 1, by go_num, by omega, by rw [HSM.out, HTM.out, ← HS.out]; congr 1; omega, Lib.hid (hin.out.alc _)⟩
          case measure => simp [intOf]; omega
    · obtain rfl : k = a.n := by omega
      go_wp2
      go_ret
      exact ⟨rfl, hin.out⟩
end Go.Proofs.Ytilcbbdmenknfaa
