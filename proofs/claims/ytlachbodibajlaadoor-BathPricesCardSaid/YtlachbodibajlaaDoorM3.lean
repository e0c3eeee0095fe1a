/- Walks: the size of a grid; moved. · Walks: the moves of a grid as an iterator. · The keeper of rests: what holds of it; the rounds over the letters that move. -/
import Derived.Test.YtlachbodibajlaaDoorM2
import Derived.RangeFuncNested
import Derived.RangeFuncBound
import Derived.RangeFuncCalls
import Derived.RangeFuncLeaves
import Derived.RangeFuncBox
import Derived.RangeFuncWrites
import Derived.Shelf.Abstract
import Derived.Shelf.RegionOpen
import Derived.OwnWalkIn
import Derived.TacticsInMore
import Derived.LoopNIn
import Derived.LoopIn
namespace Go.Proofs.YtlachbodibajlaaDoor
open Go.RowKit

theorem sz_take (ws : List Bw.Word) : ∀ k, k < ws.length → Bw.sz (ws.take (k + 1)) = Bw.sz (ws.take k) * ((ws.getD k []).length + 1) := by
  induction ws with
  | nil => intro k hk; cases hk
  | cons w ws ih =>
    intro k hk
    cases k with
    | zero => simp [Bw.sz]
    | succ k =>
      rw [List.length_cons] at hk
      have := ih k (by omega)
      rw [List.take_succ_cons, List.take_succ_cons, Bw.sz, Bw.sz, this, Nat.mul_assoc]
      rfl
theorem sz_take_le {ws : List Bw.Word} (h8 : ∀ w ∈ ws, w.length ≤ 8) (h4 : ws.length ≤ 4) (k : Nat) : Bw.sz (ws.take k) ≤ 6561 :=
  Bw.sz_le _ (by rw [List.length_take]; omega) (fun w hw => h8 w (List.mem_of_mem_take hw))
theorem mem_getD {α : Type} {l : List α} {d : α} {k : Nat} (h : k < l.length) : l.getD k d ∈ l := by
  rw [List.getD_eq_getElem?_getD, List.getElem?_eq_getElem h]; exact List.getElem_mem _
theorem drop_getD {α : Type} {l : List α} {d : α} {k : Nat} (h : k < l.length) : l.drop k = l.getD k d :: l.drop (k + 1) := by
  rw [List.drop_eq_getElem_cons h, List.getD_eq_getElem?_getD, List.getElem?_eq_getElem h]; rfl

set_option maxHeartbeats 4000000 in
set_option maxRecDepth 100000 in
theorem size_any (ws : List Bw.Word) (V : Value) (W : World) (hV : Sl W V ws) (h8 : ∀ w ∈ ws, w.length ≤ 8) (h4 : ws.length ≤ 4) :
    Calls Tryd.prog 58 #[V] W fun e W' => e = .returned (.int .i64 (Bw.sz ws : Nat)) ∧ W' = W := by
  have HV := Lib.hid hV; have H8 := Lib.hid h8; have H4 := Lib.hid h4
  clear h8 h4
  obtain ⟨A, c, rfl, hac, hcm, -⟩ := hV
  obtain ⟨n, hn⟩ : ∃ n, n = ws.length := ⟨_, rfl⟩
  have HN := Lib.hid hn
  rw [← hn] at hac ⊢
  clear hn
  go_enter Tryd.func58, Tryd.ntmps58
  go_wp2_with fail
  go_loopw [3, 8] (fun x i wr => ∃ k z : Nat, i = .int .i64 k ∧ k ≤ n ∧ x = .int .i64 z ∧ Hid (z = Bw.sz (ws.take k)) ∧ wr = W) (fun _ i _ => n - (intOf i).toNat)
  case atStart => exact ⟨0, 1, rfl, Nat.zero_le _, rfl, Lib.hid rfl, rfl⟩
  case round =>
    obtain ⟨k, z, rfl, hk, rfl, hz, rfl⟩ := hrel
    by_cases hlt : k < n
    · have hlt' : k < ws.length := by rw [← HN.out]; exact hlt
      obtain ⟨b1, o1, rfl, -, e1⟩ := Vl.at HV.out (Ext.refl _) hlt'
      obtain ⟨s, hs⟩ : ∃ s, s = ws.getD k [] := ⟨_, rfl⟩
      rw [← hs] at e1
      have hsl : s.length ≤ 8 := by rw [hs]; exact H8.out _ (mem_getD hlt')
      have hz0 : z ≤ 6561 := by rw [hz.out]; exact sz_take_le H8.out H4.out k
      have hst : z * (s.length + 1) = Bw.sz (ws.take (k + 1)) := by rw [sz_take ws k hlt', ← hs, hz.out]
      obtain ⟨m, hm⟩ : ∃ m, m = s.length := ⟨_, rfl⟩
      have hz2 : z * (m + 1) ≤ 6561 * 9 := Nat.mul_le_mul hz0 (by omega)
      obtain ⟨y, hy⟩ : ∃ y, y = z * (m + 1) := ⟨_, rfl⟩
      have hy2 : (z : Int) * ((m : Int) + 1) = y := by rw [hy]; simp
      have hw1 : IntKind.i64.wrap ((z : Int) * ((m : Int) + 1)) = y := by rw [hy2]; exact IntWalk.i64_in _ (by omega)
      have HST := Lib.hid (show y = Bw.sz (ws.take (k + 1)) by rw [hy, hm]; exact hst)
      rw [← hm] at hsl
      have hw0 : IntKind.i64.wrap ((m : Int) + 1) = (m : Int) + 1 := IntWalk.i64_in _ (by omega)
      clear hz2 hst hs hlt' hy hy2
      rw [hm] at hw0 hw1
      go_wp2
      go_roundw
      case rel => exact ⟨k + 1, y, by go_num, by omega, rfl, HST, trivial⟩
      case measure => simp [intOf]; omega
    · obtain rfl : k = n := by omega
      go_wp2
      go_ret
      have := hz.out
      rw [HN.out, List.take_length] at this
      exact ⟨by rw [this]; rfl, rfl⟩

set_option maxRecDepth 100000 in
theorem last_any (ws : List Bw.Word) (V : Value) (W : World) (hV : Sl W V ws) (h8 : ∀ w ∈ ws, w.length ≤ 8) (h4 : ws.length ≤ 4) :
    Calls Tryd.prog 50 #[V] W fun e W' => e = .returned (.int .i64 (Bw.last ws : Nat)) ∧ W' = W := by
  have HV := Lib.hid hV; have H8 := Lib.hid h8; have H4 := Lib.hid h4
  have hl : (Bw.sz ws : Int) - 1 = (Bw.last ws : Nat) := by have := Bw.sz_pos ws; unfold Bw.last; omega
  have hle := Bw.sz_le ws h4 h8
  obtain ⟨z, hz⟩ : ∃ z, z = Bw.sz ws := ⟨_, rfl⟩
  have HZ := Lib.hid hz
  rw [← hz] at hl hle
  rw [← hl]
  have hw1 : IntKind.i64.wrap ((z : Int) - 1) = (z : Int) - 1 := IntWalk.i64_in _ (by omega)
  clear hz h8 h4 hl
  obtain ⟨A, c, rfl, hac, hcm, -⟩ := hV
  go_enter Tryd.func50, Tryd.ntmps50
  go_wp2_with fail
  refine (size_any ws _ _ HV.out H8.out H4.out).mono ?_
  rintro e w1 ⟨rfl, rfl⟩
  rw [← HZ.out]
  go_wp2
  go_ret
  exact ⟨rfl, rfl⟩

theorem byte_is (s : List UInt8) (a : Nat) (h : a < (⟨s.toArray⟩ : ByteArray).size) (d : UInt8) : (((⟨s.toArray⟩ : ByteArray)[a].toNat : Int) == (d.toNat : Int)) = decide (s[a]? = some d) := by
  have hl : a < s.length := h
  have e : (⟨s.toArray⟩ : ByteArray)[a] = s[a] := rfl
  rw [e, List.getElem?_eq_getElem hl, Bool.eq_iff_iff, beq_iff_eq, decide_eq_true_eq, Option.some.injEq]
  exact ⟨fun h => UInt8.toNat_inj.1 (by omega), fun h => by rw [h]⟩
theorem dl_is (s : List UInt8) (a : Nat) (d : UInt8) (b : Bool) (h : decide (s[a]? = some d) = b) : Bw.dl s a d = if b then 1 else 0 := by
  unfold Bw.dl
  cases b
  · rw [if_neg (of_decide_eq_false h)]; rfl
  · rw [if_pos (of_decide_eq_true h)]; rfl
set_option maxHeartbeats 4000000 in
set_option maxRecDepth 100000 in
theorem moved_any (ws : List Bw.Word) (p : Nat) (d : UInt8) (V : Value) (W : World) (hV : Sl W V ws) (h8 : ∀ w ∈ ws, w.length ≤ 8) (h4 : ws.length ≤ 4) (hp : p < Bw.sz ws) :
    Calls Tryd.prog 49 #[V, .int .i64 p, .int .u8 d.toNat] W fun e W' => e = .returned (.int .i64 (Bw.mv ws p d : Nat)) ∧ W' = W := by
  have HV := Lib.hid hV; have H8 := Lib.hid h8; have H4 := Lib.hid h4
  have hmv := Nat.lt_of_lt_of_le (Bw.mv_lt ws p d hp) (Bw.sz_le ws h4 h8)
  have hpl := Nat.lt_of_lt_of_le hp (Bw.sz_le ws h4 h8)
  clear h8 h4
  obtain ⟨A, c, rfl, hac, hcm, -⟩ := hV
  obtain ⟨n, hn⟩ : ∃ n, n = ws.length := ⟨_, rfl⟩
  have HN := Lib.hid hn
  rw [← hn] at hac ⊢
  obtain ⟨M, hM⟩ : ∃ M, M = Bw.mv ws p d := ⟨_, rfl⟩
  rw [← hM] at hmv ⊢
  have HM := Lib.hid hM
  have hdn : d.toNat < 256 := d.toNat_lt
  clear hn hM hp
  go_enter Tryd.func49, Tryd.ntmps49
  go_wp2_with fail
  go_loopw [7, 8, 9, 17] (fun x y l i wr => ∃ k tq unit left : Nat, i = .int .i64 k ∧ k ≤ n ∧ x = .int .i64 tq ∧ y = .int .i64 unit ∧ l = .int .i64 left ∧ left ≤ p ∧ Hid (unit = Bw.sz (ws.take k)) ∧ Hid (tq + unit * Bw.mvd (ws.drop k) left d = M) ∧ wr = W) (fun _ _ _ i _ => n - (intOf i).toNat)
  case atStart => exact ⟨0, p, 1, p, rfl, Nat.zero_le _, rfl, rfl, rfl, Nat.le_refl _, Lib.hid rfl, Lib.hid (by rw [HM.out, List.drop_zero, Nat.one_mul]; rfl), rfl⟩
  case round =>
    obtain ⟨k, tq, unit, left, rfl, hk, rfl, rfl, rfl, hleft, hu, hto, rfl⟩ := hrel
    by_cases hlt : k < n
    · have hlt' : k < ws.length := by rw [← HN.out]; exact hlt
      obtain ⟨b1, o1, rfl, -, e1⟩ := Vl.at HV.out (Ext.refl _) hlt'
      obtain ⟨s, hs⟩ : ∃ s, s = ws.getD k [] := ⟨_, rfl⟩
      rw [← hs] at e1
      have hsl : s.length ≤ 8 := by rw [hs]; exact H8.out _ (mem_getD hlt')
      have hz0 : unit ≤ 6561 := by rw [hu.out]; exact sz_take_le H8.out H4.out k
      have hst : unit * (s.length + 1) = Bw.sz (ws.take (k + 1)) := by rw [sz_take ws k hlt', ← hs, hu.out]
      have hto2 := hto.out
      rw [drop_getD (d := []) hlt', ← hs, Bw.mvd, Nat.mul_add, ← Nat.mul_assoc] at hto2
      have hto3 : tq ≤ M := by omega
      obtain ⟨at_, hat⟩ : ∃ a, a = left % (s.length + 1) := ⟨_, rfl⟩
      obtain ⟨lf, hlf⟩ : ∃ a, a = left / (s.length + 1) := ⟨_, rfl⟩
      rw [← hat, ← hlf] at hto2
      have hatl : at_ ≤ s.length := by rw [hat]; exact Bw.mod_le s left
      have hlf2 : lf ≤ p := by rw [hlf]; exact Nat.le_trans (Nat.div_le_self _ _) hleft
      have hr1 : (left : Int).tmod ((s.length : Int) + 1) = at_ := by rw [hat]; exact Int.ofNat_tmod left (s.length + 1)
      have hr2 : (left : Int).tdiv ((s.length : Int) + 1) = lf := by rw [hlf]; exact Int.ofNat_tdiv left (s.length + 1)
      obtain ⟨y, hy⟩ : ∃ y, y = unit * (s.length + 1) := ⟨_, rfl⟩
      have hz2 : y ≤ 6561 * 9 := by rw [hy]; exact Nat.mul_le_mul hz0 (by omega)
      have hy2 : (unit : Int) * ((s.length : Int) + 1) = y := by rw [hy]; simp
      have hw1 : IntKind.i64.wrap ((unit : Int) * ((s.length : Int) + 1)) = y := by rw [hy2]; exact IntWalk.i64_in _ (by omega)
      have HST := Lib.hid (show y = Bw.sz (ws.take (k + 1)) by rw [hy]; exact hst)
      rw [← hy] at hto2
      have hw0 : IntKind.i64.wrap ((s.length : Int) + 1) = (s.length : Int) + 1 := IntWalk.i64_in _ (by omega)
      have hw2 : IntKind.i64.wrap (at_ : Int) = at_ := IntWalk.i64_in _ (by omega)
      have hw3 : IntKind.i64.wrap (lf : Int) = lf := IntWalk.i64_in _ (by omega)
      clear hst hs hlt' hy hy2 hat hlf
      by_cases hal : at_ < s.length
      · clear hto3
        go_wp2
        · rename_i hb
          rw [byte_is] at hb
          rw [dl_is s at_ d _ hb, if_pos rfl, Nat.mul_one] at hto2
          go_roundw
          case rel => exact ⟨k + 1, tq + unit, y, lf, by go_num, by omega, by go_num, rfl, rfl, hlf2, HST, Lib.hid (by omega), trivial⟩
          case measure => simp [intOf]; omega
        · rename_i hb
          rw [byte_is] at hb
          rw [dl_is s at_ d _ hb, if_neg (by decide), Nat.mul_zero, Nat.zero_add] at hto2
          go_roundw
          case rel => exact ⟨k + 1, tq, y, lf, by go_num, by omega, rfl, rfl, rfl, hlf2, HST, Lib.hid hto2, trivial⟩
          case measure => simp [intOf]; omega
      · have hdl : Bw.dl s at_ d = 0 := by
          unfold Bw.dl
          rw [if_neg (by rw [List.getElem?_eq_none (by omega)]; simp)]
        rw [hdl, Nat.mul_zero, Nat.zero_add] at hto2
        clear hdl
        go_wp2
        go_roundw
        case rel => exact ⟨k + 1, tq, y, lf, by go_num, by omega, rfl, rfl, rfl, hlf2, HST, Lib.hid hto2, trivial⟩
        case measure => simp [intOf]; omega
    · obtain rfl : k = n := by omega
      go_wp2
      go_ret
      have := hto.out
      rw [HN.out, List.drop_length, Bw.mvd, Nat.mul_zero, Nat.add_zero] at this
      exact ⟨by rw [this]; rfl, rfl⟩
end Go.Proofs.YtlachbodibajlaaDoor
namespace Go.Proofs.YtlachbodibajlaaDoor
open Go.RowKit Go.Shelf
attribute [local go_sem] Oper.semAt_some

theorem moved_x (ws : List Bw.Word) (p : Nat) (d : UInt8) (V : Value) (W : World) (hV : Sl W V ws) (h8 : ∀ w ∈ ws, w.length ≤ 8) (h4 : ws.length ≤ 4) (hp : p < Bw.sz ws) :
    Calls Tryd.prog 49 #[V, .int .i64 p, .int .u8 d.toNat] W fun e W' => e = .returned (.int .i64 (Bw.mv ws p d : Nat)) ∧ Ext W W' :=
  (moved_any ws p d V W hV h8 h4 hp).mono fun _ _ ⟨h1, h2⟩ => ⟨h1, h2 ▸ Ext.refl _⟩

theorem abides_ext {β : Type} {B : Nat} {J : β → World → Prop} (hJ : AbidesFrom B J) {s : β} {X Y : World} (hs : J s X) (e : Ext X Y) : J s Y := hJ s X Y none hs ⟨e.os, e.tape, e.output, e.size, fun b hb _ => e.block b hb⟩ (fun r e => by cases e)
/-- letter number i -/
def lt (i : Nat) : UInt8 := Bw.letters.getD i 0
theorem lt_mem {i : Nat} (h : i < 8) : lt i ∈ Bw.letters := mem_getD (l := Bw.letters) h
theorem lt_get {i : Nat} (h : i < 8) : Bw.letters[i]? = some (lt i) := by
  unfold lt
  rw [List.getD_eq_getElem?_getD, List.getElem?_eq_getElem (show i < Bw.letters.length from h)]; rfl
theorem letters_idx {k : Nat} (h : k < 8) (hk : k < (⟨#[97, 98, 99, 100, 101, 102, 103, 104]⟩ : ByteArray).size) : (⟨#[97, 98, 99, 100, 101, 102, 103, 104]⟩ : ByteArray)[k] = lt k := by
  have : ∀ k : Fin 8, (#[97, 98, 99, 100, 101, 102, 103, 104] : Array UInt8)[k.1]'(k.2) = lt k.1 := by decide
  exact this ⟨k, h⟩
/-- a letter that moves a word at p -/
abbrev It (ws : List Bw.Word) (p : Nat) := { i : Nat // i < 8 ∧ Bw.mv ws p (lt i) ≠ p }
def encM {ws : List Bw.Word} {p : Nat} (x : It ws p) : Array Value := #[.int .u8 ((lt x.1).toNat : Nat), .int .i64 (Bw.mv ws p (lt x.1) : Nat)]
/-- those below k -/
def its (ws : List Bw.Word) (p : Nat) : Nat → List (It ws p)
  | 0 => []
  | k + 1 => if h : k < 8 ∧ Bw.mv ws p (lt k) ≠ p then its ws p k ++ [⟨k, h⟩] else its ws p k
theorem its_len (ws : List Bw.Word) (p k : Nat) : (its ws p k).length ≤ k := by
  induction k with
  | zero => exact Nat.le_refl _
  | succ k ih =>
    rw [its]
    split
    · rw [List.length_append, List.length_singleton]; omega
    · omega

theorem moves_any (ws : List Bw.Word) (p : Nat) (A : Option Addr) (n c : Nat) (W : World) :
    Calls Tryd.prog 103 #[.slice A n c, .int .i64 p] W fun e W' => e = .returned (.func (.func 124) #[] #[.pointer (some ⟨W.heap.size, 0, none⟩), .pointer (some ⟨W.heap.size + 1, 0, none⟩)]) ∧ W' = (W.alloc (.cells #[.slice A n c] 70)).alloc (.cells #[.int .i64 p] 3) := by
  go_enter Tryd.func103, Tryd.ntmps103
  go_wp2
  go_ret
  exact ⟨by simp, rfl⟩

/-- all blocks below n₀ but two are as they were -/
structure K3 (n₀ : Nat) (E : Nat → Prop) (X Y : World) : Prop where
  block : ∀ b, b < n₀ → ¬ E b → Y.heap[b]? = X.heap[b]?
  size : X.heap.size ≤ Y.heap.size
theorem K3.refl (n₀ : Nat) (E : Nat → Prop) (X : World) : K3 n₀ E X X := ⟨fun _ _ _ => rfl, Nat.le_refl _⟩
theorem K3.trans {n₀ : Nat} {E : Nat → Prop} {X Y Z : World} (h : K3 n₀ E X Y) (k : K3 n₀ E Y Z) : K3 n₀ E X Z := ⟨fun b hb h1 => (k.block b hb h1).trans (h.block b hb h1), Nat.le_trans h.size k.size⟩
theorem K3.put {n₀ : Nat} {E : Nat → Prop} (W : World) (l : Nat) (o o' : Obj) (hl : n₀ ≤ l) (h : W.heap[l]? = some o) : K3 n₀ E W (W.putObj l o') := by
  have hlt := (Array.getElem?_eq_some_iff.1 h).1
  have hg := grownBy_putObj' W l o'
  exact ⟨fun b hb _ => hg.block b (by omega) (fun e => by injection e; omega), hg.size⟩

theorem K3.of {n₀ : Nat} {E : Nat → Prop} {X Y : World} (h : Ext X Y) (hn : n₀ ≤ X.heap.size) : K3 n₀ E X Y := ⟨fun b hb _ => h.block b (by omega), h.size⟩
/-- slices of words below n₀ and out of two blocks -/
def Sx (n₀ : Nat) (E : Nat → Prop) (W : World) (V : Value) (ws : List Bw.Word) : Prop := Sl W V ws ∧ ∀ A n c, V = .slice A n c → ∀ b off, A = some ⟨b, off, none⟩ → b < n₀ ∧ ¬ E b
theorem Sx.keep {n₀ : Nat} {E : Nat → Prop} {X Y : World} {V : Value} {ws : List Bw.Word} (h : Sx n₀ E X V ws) (k : K3 n₀ E X Y) : Sx n₀ E Y V ws := by
  refine ⟨?_, h.2⟩
  obtain ⟨⟨A, c, rfl, h1, h2, h3⟩, hg⟩ := h
  refine ⟨A, c, rfl, h1, h2, fun hp => ?_⟩
  obtain ⟨b, off, rfl, hb, hc⟩ := h3 hp
  obtain ⟨q1, q2⟩ := hg _ _ _ rfl _ _ rfl
  have e := k.block b q1 q2
  refine ⟨b, off, rfl, ?_, fun j hj => (World.cell?_of_block e).trans (hc j hj)⟩
  obtain ⟨o, ho⟩ : ∃ o, X.heap[b]? = some o := ⟨_, Array.getElem?_eq_getElem hb⟩
  exact (Array.getElem?_eq_some_iff.1 (e.trans ho)).1

set_option maxHeartbeats 4000000 in
set_option maxRecDepth 100000 in
theorem moves1_in (n : Nat) (hn : 1 ≤ n) (l gb nb n₀ p : Nat) (E : Nat → Prop) (ws : List Bw.Word) (V : Value) (h8 : ∀ w ∈ ws, w.length ≤ 8) (h4 : ws.length ≤ 4) (hp : p < Bw.sz ws) (hgb : gb < n₀ ∧ ¬ E gb) (hnb : nb < n₀ ∧ ¬ E nb) (J Jx : List (It ws p) → World → Prop)
    (B : Nat) (hJ : AbidesFrom B J)
    (hY : ∀ pre x W, J pre W → pre.length < 8 → YieldAt Fence.wide (n - 1) Tryd.prog l (encM x) W fun e W' => (e = .returned (.bool true) ∧ J (pre ++ [x]) W' ∧ K3 n₀ E W W') ∨ (e = .returned (.bool false) ∧ Jx (pre ++ [x]) W'))
    (W : World) (hg : Boxed W gb 70 V) (hnn : Boxed W nb 3 (.int .i64 p)) (hV : Sx n₀ E W V ws) (hn0 : n₀ ≤ W.heap.size) (h0 : J [] W) :
    CallsIn Fence.wide n Tryd.prog 124 #[.func (.yield l) #[] #[], .pointer (some ⟨gb, 0, none⟩), .pointer (some ⟨nb, 0, none⟩)] W fun e W' => (∃ v, e = .returned v) ∧ ((∃ xs, xs = its ws p 8 ∧ J xs W') ∨ (∃ pre, True ∧ Jx pre W')) := by
  have HJ := Lib.hid hJ; have HY := Lib.hid hY; have HG := Lib.hid hg; have HN := Lib.hid hnn; have HV := Lib.hid hV; have H0 := Lib.hid h0; have H8 := Lib.hid h8; have H4 := Lib.hid h4; have HP := Lib.hid hp
  obtain ⟨A, c, rfl, hac, hcm, -⟩ := hV.1
  have hle := Nat.lt_of_lt_of_le hp (Bw.sz_le ws h4 h8)
  have HGB := Lib.hid hgb; have HNB := Lib.hid hnb
  clear hJ hY hg hnn hV h0 h8 h4 hp hgb hnb
  refine callsIn_of_wp Tryd.func124 rfl trivial ?_ rfl
  simp only [Tryd.ntmps124, List.size_toArray, List.length_cons, List.length_nil, Nat.reduceAdd, Nat.reduceSub, Array.replicate_succ, Array.replicate_zero, List.push_toArray, List.append_toArray, List.nil_append, List.cons_append]
  gi_wp2
  gi_loopw [6] (fun q wr => ∃ k : Nat, q = .int .i64 k ∧ k ≤ 8 ∧ Hid (J (its ws p k) wr) ∧ Hid (K3 n₀ E W wr)) (fun q _ => 8 - (intOf q).toNat)
  case atStart => exact ⟨0, rfl, by omega, H0, Lib.hid (K3.refl _ _ _)⟩
  case round =>
    clear H0
    obtain ⟨k, rfl, hk, hj, hkp⟩ := hrel
    by_cases hlt : k < 8
    · have c0 := Boxed.cell ((hkp.out.block gb HGB.out.1 HGB.out.2).trans HG.out)
      have c1 := Boxed.cell ((hkp.out.block nb HNB.out.1 HNB.out.2).trans HN.out)
      have z0 := Boxed.lt ((hkp.out.block gb HGB.out.1 HGB.out.2).trans HG.out)
      have z1 := Boxed.lt ((hkp.out.block nb HNB.out.1 HNB.out.2).trans HN.out)
      have hSX := HV.out.keep hkp.out
      have HSX := Lib.hid hSX
      clear hSX
      gi_wp2
      refine wpIn_wide.2 ?_
      refine wp_region_noPanic ?_
      refine wp_region_held_drew (S := fun X => Ext wr X) (by kernel_rfl) (Ext.drw (Ext.refl _)) (fun _ => ?_)
      refine take_at 0 (some 9) (.slice A ws.length c) rfl rfl (by kernel_rfl) (by kernel_rfl) (by kernel_rfl) (fun _ _ _ h => h) (Or.inl ⟨by rfl, fun w' hSw => ?_⟩) (Ext.drw (Ext.refl _)) ?_
      · have q0 := keepAt hSw z0 c0
        try clear hSw
        go_simp
        all_goals (with_reducible rfl)
      try simp only [Act.put, List.setIfInBounds_toArray, List.set_cons_zero, List.set_cons_succ]
      refine take_at 1 (some 10) (.int .i64 p) rfl rfl (by kernel_rfl) (by kernel_rfl) (by kernel_rfl) (fun _ _ _ h => h) (Or.inl ⟨by rfl, fun w' hSw => ?_⟩) (Ext.drw (Ext.refl _)) ?_
      · have q1 := keepAt hSw z1 c1
        try clear hSw
        go_simp
        all_goals (with_reducible rfl)
      try simp only [Act.put, List.setIfInBounds_toArray, List.set_cons_zero, List.set_cons_succ]
      refine take_at 2 (some 11) (.int .i64 k) rfl rfl (by kernel_rfl) (by kernel_rfl) (by kernel_rfl) (fun _ _ _ h => h) (Or.inl ⟨by rfl, fun w' hSw => ?_⟩) (Ext.drw (Ext.refl _)) ?_
      · skip
        try clear hSw
        go_simp
        all_goals (with_reducible rfl)
      try simp only [Act.put, List.setIfInBounds_toArray, List.set_cons_zero, List.set_cons_succ]
      refine take_at 3 (some 12) (.int .u8 ((lt k).toNat : Nat)) rfl rfl (by kernel_rfl) (by kernel_rfl) (by kernel_rfl) (fun _ _ _ h => h) (Or.inl ⟨by rfl, fun w' hSw => ?_⟩) (Ext.drw (Ext.refl _)) ?_
      · skip
        try clear hSw
        go_simp
        all_goals (first | (with_reducible rfl) | exact congrArg (fun x : UInt8 => (x.toNat : Int)) (letters_idx hlt _))
      try simp only [Act.put, List.setIfInBounds_toArray, List.set_cons_zero, List.set_cons_succ]
      refine wpAnyH_ready (rs := [4]) (by kernel_rfl) (by simp) ?_
      refine AllReadyH.cons rfl (fun K hK => ?_) AllReadyH.nil
      go_simp
      refine (moved_x ws p (lt k) _ _ (HSX.out.1.ext (Ext.drw (Ext.refl _))) H8.out H4.out HP.out).mono ?_
      rintro e v4 ⟨rfl, hb4⟩
      have e4 : Ext wr v4 := (Ext.drw (Ext.refl _)).trans hb4
      try go_wp2_with fail
      refine hK.out _ _ e4 (fun _ => ?_)
      clear hK K
      try simp only [Act.put, List.setIfInBounds_toArray, List.set_cons_zero, List.set_cons_succ]
      refine take_at 5 (some 5) (.int .i64 (Bw.mv ws p (lt k) : Nat)) rfl rfl (by kernel_rfl) (by kernel_rfl) (by kernel_rfl) (fun _ _ _ h => h) (Or.inl ⟨by rfl, fun w' hSw => ?_⟩) (e4) ?_
      · skip
        try clear hSw
        go_simp
        all_goals (with_reducible rfl)
      try simp only [Act.put, List.setIfInBounds_toArray, List.set_cons_zero, List.set_cons_succ]
      refine wpAnyH_done (by kernel_rfl) ?_ _
      refine NoPanic.normal ?_
      clear c0
      have c1 := keepAt e4 z1 c1
      have HJ4 := Lib.hid (abides_ext HJ.out hj.out e4)
      have HK4 : Hid (K3 n₀ E W v4) := Lib.hid (hkp.out.trans (K3.of e4 (Nat.le_trans hn0 hkp.out.size)))
      clear hb4 e4 hj hkp z0
      by_cases hm : Bw.mv ws p (lt k) = p
      · have hits : its ws p (k + 1) = its ws p k := by rw [its, dif_neg (fun h => h.2 hm)]
        have HITS := Lib.hid hits
        rw [hm]
        clear hits hm
        gi_wp2
        refine ⟨fun f hf => (by cases hf), ?_⟩
        gi_wp2
        go_roundw
        case rel => exact ⟨k + 1, by go_num, by omega, by rw [HITS.out]; exact HJ4, HK4⟩
        case measure => simp [intOf]; omega
      · have hits : its ws p (k + 1) = its ws p k ++ [⟨k, hlt, hm⟩] := by rw [its, dif_pos ⟨hlt, hm⟩]
        have HITS := Lib.hid hits
        obtain ⟨fn, tmps, assign, body, hy, hR⟩ := HY.out (its ws p k) ⟨k, hlt, hm⟩ v4 HJ4.out (by have := its_len ws p k; omega)
        unfold encM at hy
        dsimp only at hy
        have HR := Lib.hid hR
        obtain ⟨M, hM⟩ : ∃ M, M = Bw.mv ws p (lt k) := ⟨_, rfl⟩
        rw [← hM] at hm hy ⊢
        rw [← letters_idx hlt (by show k < 8; exact hlt)] at hy
        have hmi : ¬ (M : Int) = (p : Int) := by omega
        clear hR hits hM
        have hne : ((M : Int) != (p : Int)) = true := by simp; omega
        gi_wp2
        refine HR.out.mono ?_
        rintro e W3 (⟨rfl, hJ3, hk3⟩ | ⟨rfl, hJx3⟩)
        · have HJ3 := Lib.hid hJ3; have HK3 := Lib.hid (HK4.out.trans hk3)
          clear hJ3 hk3 c1 hy HR HJ4 HK4
          gi_wp2
          go_roundw
          case rel => exact ⟨k + 1, by go_num, by omega, by rw [HITS.out]; exact HJ3, HK3⟩
          case measure => simp [intOf]; omega
        · have HJ3 := Lib.hid hJx3; clear hJx3 c1 hy HR HJ4 HK4
          gi_wp2
          refine bodyPost_ret (results_none (by kernel_rfl) _ _ _) rfl ?_
          exact ⟨⟨_, rfl⟩, .inr ⟨_, trivial, HJ3.out⟩⟩
    · obtain rfl : k = 8 := by omega
      gi_wp2
      go_end0
      exact ⟨⟨_, rfl⟩, .inl ⟨_, rfl, hj.out⟩⟩

theorem moves1_stops (n : Nat) (hn : 1 ≤ n) (gb nb n₀ p : Nat) (E : Nat → Prop) (ws : List Bw.Word) (V : Value) (h8 : ∀ w ∈ ws, w.length ≤ 8) (h4 : ws.length ≤ 4) (hp : p < Bw.sz ws) (hgb : gb < n₀ ∧ ¬ E gb) (hnb : nb < n₀ ∧ ¬ E nb)
    (w0 : World) (hle : n₀ ≤ w0.heap.size) (hg : Boxed w0 gb 70 V) (hnn : Boxed w0 nb 3 (.int .i64 p)) (hV : Sl w0 V ws) (hVx : ∀ A n c, V = .slice A n c → ∀ b off, A = some ⟨b, off, none⟩ → b < n₀ ∧ ¬ E b) :
    SeqStopsK Fence.wide n Tryd.prog 124 #[.pointer (some ⟨gb, 0, none⟩), .pointer (some ⟨nb, 0, none⟩)] (fun x : It ws p => encM x) (K3 n₀ E) (fun xs => xs = its ws p 8) (fun _ => True) 8 w0 :=
  fun l J Jx W hb hJ _ hY h0 => moves1_in n hn l gb nb n₀ p E ws V h8 h4 hp hgb hnb J Jx W.heap.size hJ hY W ((hb.block gb (by omega)).trans hg) ((hb.block nb (by omega)).trans hnn) ⟨hV.ext hb, hVx⟩ (Nat.le_trans hle hb.size) h0
end Go.Proofs.YtlachbodibajlaaDoor
namespace Go.Proofs.YtlachbodibajlaaDoor
open Go.RowKit Go.Shelf

/-- one letter more: the first shortest string so far, and how many -/
def stp (ws : List Bw.Word) (p : Nat) (b : List UInt8 × Nat) (x : It ws p) : List UInt8 × Nat := Bw.take1 (Bw.rest ws (Bw.mv ws p (lt x.1))) (lt x.1) b
def fld (ws : List Bw.Word) (p : Nat) (l : List (It ws p)) : List UInt8 × Nat := l.foldl (stp ws p) ([], 0)
theorem fld_snoc (ws : List Bw.Word) (p : Nat) (l : List (It ws p)) (x : It ws p) : fld ws p (l ++ [x]) = stp ws p (fld ws p l) x := by simp [fld]
theorem take_lt {k : Nat} (h : k < 8) : Bw.letters.take (k + 1) = Bw.letters.take k ++ [lt k] := by
  have hk : k < Bw.letters.length := h
  rw [List.take_succ_eq_append_getElem hk]
  unfold lt
  rw [List.getD_eq_getElem?_getD, List.getElem?_eq_getElem hk]; rfl
theorem its_fld (ws : List Bw.Word) (p : Nat) : ∀ k, k ≤ 8 → fld ws p (its ws p k) = (Bw.letters.take k).foldl (Bw.looked ws (Bw.rest ws) p) ([], 0)
  | 0, _ => rfl
  | k + 1, h => by
    have ih := its_fld ws p k (by omega)
    rw [take_lt (by omega), List.foldl_append, ← ih, List.foldl_cons, List.foldl_nil, its]
    unfold Bw.looked
    by_cases hm : Bw.mv ws p (lt k) = p
    · rw [dif_neg (fun h => h.2 hm), if_pos hm]
    · rw [dif_pos ⟨by omega, hm⟩, if_neg hm, fld_snoc]; rfl
theorem its_prefix {ws : List Bw.Word} {p : Nat} : ∀ (m : Nat) {pre : List (It ws p)}, pre <+: its ws p m → ∃ k, k ≤ m ∧ pre = its ws p k
  | 0, pre, h => ⟨0, Nat.le_refl _, by rw [its] at h ⊢; simpa using h⟩
  | m + 1, pre, h => by
    rw [its] at h
    split at h
    · rename_i hx
      rcases List.prefix_concat_iff.1 h with h1 | h1
      · exact ⟨m + 1, Nat.le_refl _, by rw [its, dif_pos hx, h1]⟩
      · obtain ⟨k, h2, h3⟩ := its_prefix m h1
        exact ⟨k, by omega, h3⟩
    · obtain ⟨k, h2, h3⟩ := its_prefix m h
      exact ⟨k, by omega, h3⟩
theorem rest_moved {ws : List Bw.Word} (hw : okWs ws = true) {p : Nat} (hp : p < Bw.sz ws) {c : UInt8} (hm : Bw.mv ws p c ≠ p) : (Bw.rest ws (Bw.mv ws p c)).2 ≤ 4 ^ 30 ∧ (Bw.rest ws (Bw.mv ws p c)).1.length ≤ 31 := by
  obtain ⟨-, h4, h8, hW⟩ := okWs_iff.1 hw
  have h1 := Bw.rem_lt hm
  have h2 := Bw.rem_zero_le ws h4 h8 p
  have hq := Bw.mv_lt ws p c hp
  have h3 := Bw.rest_len hW _ _ hq (Nat.le_refl _)
  exact ⟨Bw.rest_many ws h4 31 _ hq (by omega), by omega⟩
theorem fld_count {ws : List Bw.Word} (hw : okWs ws = true) {p : Nat} (hp : p < Bw.sz ws) {l : List (It ws p)} (h : l <+: its ws p 8) : (fld ws p l).2 ≤ 4 ^ 31 := by
  obtain ⟨k, hk, rfl⟩ := its_prefix 8 h
  rw [its_fld ws p k hk]
  obtain ⟨-, h4, h8, hW⟩ := okWs_iff.1 hw
  have h1 := Bw.looked_count ws (Bw.rest ws) p (4 ^ 30) (fun c hm => (rest_moved hw hp hm).1) (Bw.letters.take k) ([], 0)
  have h2 := (Bw.sum_moved ws p).1
  have h3 : ((Bw.letters.take k).map (Bw.mvn ws p)).sum ≤ (Bw.letters.map (Bw.mvn ws p)).sum := by
    conv => rhs; rw [← List.take_append_drop k Bw.letters]
    rw [List.map_append, List.sum_append]; omega
  have h5 : ((Bw.letters.take k).map (Bw.mvn ws p)).sum * 4 ^ 30 ≤ 4 * 4 ^ 30 := Nat.mul_le_mul_right _ (by omega)
  rw [Nat.zero_add] at h1
  exact Nat.le_trans h1 (Nat.le_trans h5 (by decide))
theorem fld_all {ws : List Bw.Word} {p : Nat} (hp : p < Bw.sz ws) (e : p ≠ Bw.last ws) : fld ws p (its ws p 8) = Bw.rest ws p := by
  rw [its_fld ws p 8 (Nat.le_refl _), Bw.rest_eq ws p hp e]; rfl

/-- all but two blocks are as they were -/
structure Kq (g h : Nat) (w w' : World) : Prop where
  os : w'.os = w.os
  tape : w'.tape = w.tape
  output : w'.output = w.output
  size : w.heap.size ≤ w'.heap.size
  block : ∀ b, b < w.heap.size → b ≠ g → b ≠ h → w'.heap[b]? = w.heap[b]?
section
variable {g h : Nat} {w x y : World}
theorem Kq.refl (g h : Nat) (w : World) : Kq g h w w := ⟨rfl, rfl, rfl, Nat.le_refl _, fun _ _ _ _ => rfl⟩
theorem Kq.trans (a : Kq g h w x) (k : Kq g h x y) : Kq g h w y :=
  ⟨k.os.trans a.os, k.tape.trans a.tape, k.output.trans a.output, Nat.le_trans a.size k.size, fun b hb h1 h2 => (k.block b (Nat.lt_of_lt_of_le hb a.size) h1 h2).trans (a.block b hb h1 h2)⟩
theorem Kq.of (g h : Nat) (e : Ext w x) : Kq g h w x := ⟨e.os, e.tape, e.output, e.size, fun b hb _ _ => e.block b hb⟩
theorem Kq.ext {w0 : World} (a : Kq g h w x) (e : Ext w0 w) (hg : w0.heap.size ≤ g) (hh : w0.heap.size ≤ h) : Ext w0 x :=
  ⟨a.os.trans e.os, a.tape.trans e.tape, a.output.trans e.output, Nat.le_trans e.size a.size, fun b hb => (a.block b (Nat.lt_of_lt_of_le hb e.size) (by omega) (by omega)).trans (e.block b hb)⟩
theorem heap_far {Y : World} {g i k : Nat} {v : Value} (hne : k ≠ g) : (Y.setCell ⟨g, i, none⟩ v).heap[k]? = Y.heap[k]? := Below.heap_setCell Y ⟨g, i, none⟩ v k hne
theorem Kq.sc {q i : Nat} (a : Kq g h w x) (v : Value) (hq : w.heap.size ≤ q ∨ q = g ∨ q = h) : Kq g h w (x.setCell ⟨q, i, none⟩ v) :=
  ⟨a.os, a.tape, a.output, by simp [World.setCell]; exact a.size, fun b hb h1 h2 => (heap_far (by omega)).trans (a.block b hb h1 h2)⟩
theorem Kq.alc (a : Kq g h w x) (o : Obj) : Kq g h w (x.alloc o) := a.trans (Kq.of g h (Ext.alc (Ext.refl _) o))
theorem Kq.drw (a : Kq g h w x) : Kq g h w x.drew := ⟨a.os, a.tape, a.output, a.size, a.block⟩
theorem Kq.cell {b i : Nat} {v : Value} (a : Kq g h w x) (hb : b < w.heap.size) (h1 : b ≠ g) (h2 : b ≠ h) (hc : w.cell? ⟨b, i, none⟩ = some v) : x.cell? ⟨b, i, none⟩ = some v := (World.cell?_of_block (a.block b hb h1 h2)).trans hc
theorem Kq.grow {row : Option Nat} (a : Kq g h w x) (k : x.grownBy y row) (hr : ∀ r, row = some r → w.heap.size ≤ r) : Kq g h w y :=
  ⟨k.os.trans a.os, k.tape.trans a.tape, k.output.trans a.output, Nat.le_trans a.size k.size, fun b hb h1 h2 => (k.block b (Nat.lt_of_lt_of_le hb a.size) (fun e => by have := hr b e.symm; omega)).trans (a.block b hb h1 h2)⟩
end

/-- a value of two cells at each index -/
def tw (a c : Nat → Value) (i : Nat) : Value := if i % 2 = 0 then a (i / 2) else c (i / 2)
theorem tw_0 (a c : Nat → Value) (p : Nat) : tw a c (p * 2) = a p := by unfold tw; rw [if_pos (by omega)]; congr 1; omega
theorem tw_1 (a c : Nat → Value) (p : Nat) : tw a c (p * 2 + 1) = c p := by unfold tw; rw [if_neg (by omega)]; congr 1; omega
theorem tw_up (a c : Nat → Value) (p : Nat) (v u : Value) (i : Nat) : up (up (tw a c) (p * 2) v) (p * 2 + 1) u i = tw (up a p v) (up c p u) i := by
  unfold up tw
  by_cases h1 : i = p * 2 + 1
  · rw [if_pos h1, if_neg (by omega)]; dsimp only; rw [if_pos (by omega)]
  · rw [if_neg h1]
    by_cases h0 : i = p * 2
    · rw [if_pos h0, if_pos (by omega)]; dsimp only; rw [if_pos (by omega)]
    · rw [if_neg h0]
      by_cases h2 : i % 2 = 0
      · rw [if_pos h2, if_pos h2]; dsimp only; rw [if_neg (by omega)]
      · rw [if_neg h2, if_neg h2]; dsimp only; rw [if_neg (by omega)]

/-- what the keeper of rests is -/
structure Kr (ws : List Bw.Word) (V : Value) (W0 : World) (kb g1 g2 gb : Nat) : Prop where
  ok : okWs ws = true
  gb : Boxed W0 gb 70 V
  sl : Sl W0 V ws
  l1 : W0.heap.size ≤ g1
  l2 : W0.heap.size ≤ g2
  n12 : g1 ≠ g2
  nk1 : kb ≠ g1
  nk2 : kb ≠ g2
structure Ki (ws : List Bw.Word) (W0 : World) (kb g1 g2 gb : Nat) (X : World) : Prop where
  ext : Ext W0 X
  kbk : X.heap[kb]? = some (.cells #[.func (.func 102) #[] #[.pointer (some ⟨gb, 0, none⟩)], .slice (some ⟨g1, 0, none⟩) (Bw.sz ws) (Bw.sz ws), .slice (some ⟨g2, 0, none⟩) (Bw.sz ws) (Bw.sz ws)] 130 (0, 0))
  known : ∃ (kn : Nat → Bool) (a : Nat → List UInt8) (c : Nat → Int), BB X g1 (Bw.sz ws) kn ∧ Bk X g2 75 (2 * Bw.sz ws) (tw (fun p => .string ⟨(a p).toArray⟩) (fun p => .int .i64 (c p))) ∧
    ∀ p, p < Bw.sz ws → kn p = true → a p = (Bw.rest ws p).1 ∧ c p = ((Bw.rest ws p).2 : Nat)
theorem Ki.lt {ws : List Bw.Word} {W0 : World} {kb g1 g2 gb : Nat} {X : World} (h : Ki ws W0 kb g1 g2 gb X) : kb < X.heap.size ∧ g1 < X.heap.size ∧ g2 < X.heap.size := by
  obtain ⟨kn, a, c, h1, h2, -⟩ := h.known
  exact ⟨(Array.getElem?_eq_some_iff.1 h.kbk).1, Bk.lt h1, Bk.lt h2⟩
/-- a world in which all the keeper's blocks are as they were -/
theorem Ki.move {ws : List Bw.Word} {W0 : World} {kb g1 g2 gb : Nat} {X Y : World} (h : Ki ws W0 kb g1 g2 gb X) (e : Ext W0 Y) (hb : ∀ b, b = kb ∨ b = g1 ∨ b = g2 → Y.heap[b]? = X.heap[b]?) : Ki ws W0 kb g1 g2 gb Y := by
  obtain ⟨kn, a, c, h1, h2, h3⟩ := h.known
  exact ⟨e, (hb kb (by simp)).trans h.kbk, kn, a, c, (hb g1 (by simp)).trans h1, (hb g2 (by simp)).trans h2, h3⟩
theorem Ki.ext' {ws : List Bw.Word} {W0 : World} {kb g1 g2 gb : Nat} {X Y : World} (h : Ki ws W0 kb g1 g2 gb X) (e : Ext X Y) : Ki ws W0 kb g1 g2 gb Y :=
  h.move (h.ext.trans e) (fun b hb => e.block b (by have := h.lt; omega))
/-- the contract of the keeper -/
def OfOk (ws : List Bw.Word) (W0 : World) (kb g1 g2 gb q : Nat) : Prop := ∀ X, Ki ws W0 kb g1 g2 gb X →
  Calls Tryd.prog 55 #[.pointer (some ⟨kb, 0, none⟩), .int .i64 q] X fun e X' => e = .returned (.agg #[.string ⟨(Bw.rest ws q).1.toArray⟩, .int .i64 ((Bw.rest ws q).2 : Nat)]) ∧ Kq g1 g2 X X' ∧ Ki ws W0 kb g1 g2 gb X'
def RuleOk (ws : List Bw.Word) (W0 : World) (kb g1 g2 gb q : Nat) : Prop := ∀ X, Ki ws W0 kb g1 g2 gb X →
  Calls Tryd.prog 102 #[.func (.func 55) #[.pointer (some ⟨kb, 0, none⟩)] #[], .int .i64 q, .pointer (some ⟨gb, 0, none⟩)] X fun e X' => e = .returned (.agg #[.string ⟨(Bw.rest ws q).1.toArray⟩, .int .i64 ((Bw.rest ws q).2 : Nat)]) ∧ Kq g1 g2 X X' ∧ Ki ws W0 kb g1 g2 gb X'
end Go.Proofs.YtlachbodibajlaaDoor
