/- Walks: the reference's Delete. · Walks: Dual. · Walks: the reference's lowest. -/
import Derived.Test.YtijhbmdbnnmogaaM3
import Derived.Test.YtijhbmdbnnmogaaM6
import Derived.RegionTactic
import Derived.ChangeAlike
import Derived.Lib.MinMax
namespace Go.Proofs.Ytijhbmdbnnmogaa.G
open Go.RowKit

/-- how many of the first d stay -/
def cd (e d : Nat) : Nat := if d ≤ 2 * e then d else if d = 2 * e + 1 then 2 * e else d - 2
theorem cd_in {e d : Nat} (h : d / 2 = e) : cd e (d + 1) = cd e d := by unfold cd; split <;> split <;> (try split) <;> (try split) <;> omega
theorem cd_out {e d : Nat} (h : d / 2 ≠ e) : cd e (d + 1) = cd e d + 1 ∧ cd e d = nu e d := by unfold cd nu; constructor <;> (repeat' split) <;> omega
/-- on the way: x is d's next dart, or the next one after that while it is of the edge -/
def Sx (f : Nat → Nat) (e s k x : Nat) : Prop := (x / 2 ≠ e ∧ s = x) ∨ (x / 2 = e ∧ f x / 2 ≠ e ∧ s = f x ∧ 1 ≤ k) ∨ (x / 2 = e ∧ f x / 2 = e ∧ f (f x) / 2 ≠ e ∧ s = f (f x) ∧ 2 ≤ k)

theorem own_keep {w : World} {base n size : Nat} {e : TypeId} {v : Value} {xs : List Value} (h : w.ownsRow base e size v n xs) (p : Addr) (hp : p.block < base) (u : Value) : (w.setCell p u).ownsRow base e size v n xs := by
  obtain ⟨h1, h2 | ⟨g, cap, cur, rfl, hb, hh, rest⟩⟩ := h
  · exact ⟨h1, .inl h2⟩
  · exact ⟨h1, .inr ⟨g, cap, cur, rfl, hb, (Below.heap_setCell w p u g (by omega)).trans hh, rest⟩⟩

set_option maxHeartbeats 8000000 in
set_option maxRecDepth 100000 in
theorem deleteR_any (n e : Nat) (f : Nat → Int) (NV : Value) (W : World) (hN : Il W NV n f) (hM : Mp n f) (he : 2 * e + 1 < n) :
    Calls Try.prog 25 #[.agg #[NV], .int .i64 (e : Nat)] W fun r W' => ∃ V, r = .returned (.agg #[V]) ∧ Il W' V (n - 2) (fun j => ((dl (tn f) e j : Nat) : Int)) ∧ Ext W W' := by
  have hn80 := hM.le
  have HN := Lib.hid hN; have HM := Lib.hid hM
  obtain ⟨A, c, rfl, hac, hcm, -⟩ := hN
  clear hM
  obtain ⟨i0, hi, hz0, hz1, hz2⟩ := info_parts info3
  have HI := Lib.hid (And.intro hi (And.intro hz0 (And.intro hz1 hz2)))
  clear hi hz0 hz1 hz2
  go_enter Try.func25, Try.ntmps25
  go_upto_region 1 with fail
  have bb := al2 W (.cells #[.slice A n c] 24) (.cells #[.slice none 0 0] 24)
  have h0 := (Below.heap_alloc (W.alloc (.cells #[.slice A n c] 24)) (.cells #[.slice none 0 0] 24) W.heap.size (by simp)).trans (heap_alloc_new W (.cells #[.slice A n c] 24))
  have h1 := heap_alloc_new (W.alloc (.cells #[.slice A n c] 24)) (.cells #[.slice none 0 0] 24)
  simp only [World.size_alloc] at h1
  generalize (W.alloc (.cells #[.slice A n c] 24)).alloc (.cells #[.slice none 0 0] 24) = w2 at *
  obtain ⟨m0, -, mz⟩ := uno h0
  have HB : Hid (Ext W w2) := Lib.hid bb
  have hmz1 : W.heap.size + 1 < w2.heap.size := (uno h1).2.2
  have H1 := Lib.hid (And.intro h1 m0)
  clear bb h0 h1
  go_upto_region 2 with fail
  have b3 := al1 w2 (.cells #[.slice none 0 0] 24)
  have h3 := heap_alloc_new w2 (.cells #[.slice none 0 0] 24)
  obtain ⟨z, hz⟩ : ∃ z, z = w2.heap.size := ⟨_, rfl⟩
  rw [← hz] at h3 ⊢
  generalize w2.alloc (.cells #[.slice none 0 0] 24) = w3 at *
  have hz3 : z < w3.heap.size := (uno h3).2.2
  have m0 := keepAt b3 mz H1.out.2
  have hzW : W.heap.size + 1 < z := by omega
  have HZ := Lib.hid hz
  have H3 := Lib.hid (And.intro h3 b3)
  clear hz b3 h3
  go_wp2_with fail
  clear m0
  go_loopw [11] (fun i wr => ∃ (d : Nat) (q : Value), i = .int .i64 d ∧ d ≤ n ∧ Hid (wr.heap[z]? = some (.cells #[q] 24 (0, 0)) ∧ wr.ownsRow w3.heap.size 3 1 q (cd e d) (nl (cd e d) (fun j => ((dl (tn f) e j : Nat) : Int))) ∧ Ext w2 wr ∧ w3.heap.size ≤ wr.heap.size)) (fun i _ => n - (intOf i).toNat)
  case atStart => exact ⟨0, _, rfl, Nat.zero_le _, Lib.hid ⟨H3.out.1, World.ownsRow_nil _ _ _ _, H3.out.2, Nat.le_refl _⟩⟩
  case round =>
    clear H3
    obtain ⟨d, q, rfl, hd, hin⟩ := hrel
    obtain ⟨Av, cv, rfl⟩ := shape_own hin.out.2.1
    obtain ⟨wo, rfl⟩ : ∃ w, w = wr := ⟨_, rfl⟩
    by_cases hlt : d < n
    · obtain ⟨dq, hdq⟩ : ∃ q, q = d / 2 := ⟨_, rfl⟩
      have hquo : ((d : Int)).tdiv 2 = (dq : Int) := by rw [Int.tdiv_eq_ediv_of_nonneg (by omega), hdq]; omega
      have HDQ := Lib.hid hdq
      have hdq80 : dq ≤ 80 := by omega
      clear hdq
      by_cases hde : dq = e
      · have hs : cd e (d + 1) = cd e d := cd_in (by rw [← HDQ.out]; exact hde)
        subst hde
        have hbe : ((dq : Int) == (dq : Int)) = true := by simp
        have HX : Hid (wo.heap[z]? = some (.cells #[.slice Av (cd dq d) cv] 24 (0, 0)) ∧ wo.ownsRow w3.heap.size 3 1 (.slice Av (cd dq d) cv) (cd dq (d + 1)) (nl (cd dq (d + 1)) (fun j => ((dl (tn f) dq j : Nat) : Int))) ∧ Ext w2 wo ∧ w3.heap.size ≤ wo.heap.size) := Lib.hid (by rw [hs]; exact hin.out)
        clear hs hin
        go_wp2
        go_roundw
        case rel => exact ⟨d + 1, _, by go_num, by omega, HX⟩
        case measure => simp [intOf]; omega
      · have hbe : ((dq : Int) == (e : Int)) = false := by simp; omega
        have hd1 : d ≠ 2 * e ∧ d ≠ 2 * e + 1 := by have := HDQ.out; omega
        have hsk := sk_steps (f := tn f) (fun x hx => HM.out.tn_lt hx) (fun x y hx hy e => HM.out.inj x y hx hy (by rw [← HM.out.tn_eq hx, ← HM.out.tn_eq hy, e])) he hlt hd1.1 hd1.2
        obtain ⟨s, hs⟩ : ∃ s, s = dk (tn f) e d := ⟨_, rfl⟩
        rw [← hs] at hsk
        obtain ⟨x0, hx0⟩ : ∃ x, x = tn f d := ⟨_, rfl⟩
        have hstart : Sx (tn f) e s 3 x0 := by
          rw [hx0]
          rcases hsk.2 with ⟨g1, g2⟩ | ⟨g1, g2, g3⟩ | ⟨g1, g2, g3, g4⟩
          · exact .inl ⟨g1, g2⟩
          · exact .inr (.inl ⟨g1, g2, g3, by omega⟩)
          · exact .inr (.inr ⟨g1, g2, g3, g4, by omega⟩)
        have hx0n : x0 < n := by rw [hx0]; exact HM.out.tn_lt hlt
        have HSK := Lib.hid (And.intro hsk.1 (And.intro hs (And.intro hstart hd1)))
        have m0 := keepAt hin.out.2.2.1 mz H1.out.2
        obtain ⟨b1, o1, rfl, hb1, e1⟩ := Vl.at HN.out (HB.out.trans hin.out.2.2.1) hlt
        rw [← HM.out.tn_eq hlt, ← hx0] at e1
        clear hsk hs hstart hx0
        go_wp2_with fail
        clear e1
        go_loopg [7] 3 (fun k v wr => ∃ x : Nat, v = .int .i64 (x : Nat) ∧ x < n ∧ Hid (Sx (tn f) e s k x) ∧ wr = wo)
        case atStart => exact ⟨x0, rfl, hx0n, Lib.hid HSK.out.2.2.1, rfl⟩
        case round =>
          obtain ⟨x, rfl, hxn, hsx, rfl⟩ := hrel
          obtain ⟨xq, hxq⟩ : ∃ q, q = x / 2 := ⟨_, rfl⟩
          have hquo2 : ((x : Int)).tdiv 2 = (xq : Int) := by rw [Int.tdiv_eq_ediv_of_nonneg (by omega), hxq]; omega
          have HXQ := Lib.hid hxq
          have hxq80 : xq ≤ 80 := by omega
          clear hxq
          by_cases hxe : xq = e
          · have m0 := keepAt hin.out.2.2.1 mz H1.out.2
            obtain ⟨b2, o2, eq2, -, e2⟩ := Vl.at HN.out (HB.out.trans hin.out.2.2.1) hxn
            injection eq2 with eq2
            injection eq2 with eqb eqo
            subst eqb eqo
            obtain ⟨y, hy⟩ : ∃ y, y = tn f x := ⟨_, rfl⟩
            rw [← HM.out.tn_eq hxn, ← hy] at e2
            have hyn : y < n := by rw [hy]; exact HM.out.tn_lt hxn
            have hnew : Sx (tn f) e s (gk - 1) y ∧ 1 ≤ gk := by
              have hx2 : x / 2 = e := by rw [← HXQ.out]; exact hxe
              rcases hsx.out with ⟨g1, -⟩ | ⟨-, g2, g3, g4⟩ | ⟨-, g2, g3, g4, g5⟩
              · exact absurd hx2 g1
              · exact ⟨.inl ⟨by rw [hy]; exact g2, by rw [hy]; exact g3⟩, g4⟩
              · exact ⟨.inr (.inl ⟨by rw [hy]; exact g2, by rw [hy]; exact g3, by rw [hy]; exact g4, by omega⟩), by omega⟩
            have HNW := Lib.hid hnew
            clear hnew hy
            subst hxe
            have hbe2 : ((xq : Int) == (xq : Int)) = true := by simp
            go_wp2
            go_roundg (gk - 1)
            case measure => have := HNW.out.2; omega
            case rel => exact ⟨y, rfl, hyn, Lib.hid HNW.out.1, rfl⟩
          · have hbe2 : ((xq : Int) == (e : Int)) = false := by simp; omega
            have hsx2 : s = x := by
              rcases hsx.out with ⟨-, g⟩ | ⟨g, -⟩ | ⟨g, -⟩
              · exact g
              · exact absurd (HXQ.out.trans g) hxe
              · exact absurd (HXQ.out.trans g) hxe
            have hx1 : x ≠ 2 * e ∧ x ≠ 2 * e + 1 := by have := HXQ.out; omega
            obtain ⟨y, hy⟩ : ∃ y, y = nu e x := ⟨_, rfl⟩
            have hyv : ((e : Int) < (xq : Int) → (y : Int) = (x : Int) - 2) ∧ (¬ (e : Int) < (xq : Int) → (y : Int) = (x : Int)) := by
              have := HXQ.out
              rw [hy]; unfold nu
              constructor <;> intro h <;> split <;> omega
            have hdl : dl (tn f) e (cd e d) = y := by
              have h1 := (cd_out (e := e) (d := d) (by rw [← HDQ.out]; exact hde)).2
              unfold dl
              rw [h1, un_nu HSK.out.2.2.2.1 HSK.out.2.2.2.2, ← HSK.out.2.1, hsx2, hy]
            have hcd := (cd_out (e := e) (d := d) (by rw [← HDQ.out]; exact hde)).1
            have HY := Lib.hid (And.intro hyv (And.intro hdl hcd))
            clear hsx2 hx1 hy hyv hdl hcd
            go_upto_if 35 with fail
            go_cut [7] (fun v wx => v = .int .i64 (y : Nat) ∧ wx = wr)
            case first =>
              have h1 := HY.out.1
              by_cases hc : (e : Int) < (xq : Int)
              · have h2 := Lib.hid (h1.1 hc)
                clear h1
                go_wp2_with fail
                go_meet
                exact ⟨by rw [h2.out], rfl⟩
              · have h2 := Lib.hid (h1.2 hc)
                clear h1
                go_wp2_with fail
                go_meet
                exact ⟨by rw [h2.out], rfl⟩
            case rest =>
            obtain ⟨rfl, hwc⟩ := hcut
            rw [hwc]
            clear hwc
            obtain ⟨z0, -, -⟩ := uno hin.out.1
            obtain ⟨L, hL⟩ : ∃ L, L = cd e d := ⟨_, rfl⟩
            have HIN := hin
            have hown0 := hin.out.2.1
            have hL80 : L ≤ 80 := by rw [hL]; unfold cd; (repeat' split) <;> omega
            rw [← hL] at hown0 HIN z0
            have HL := Lib.hid hL
            clear hL hin
            go_wp2_with (at_builtin; refine wpList_append_own _ rfl _ _ 22 rfl w3.heap.size 3 i0 (.int .i64 0) 1 8 Try.underlying22 HI.out.1 HI.out.2.1 HI.out.2.2.1 HI.out.2.2.2 rfl (by decide) _ L _ rfl (World.ownsRow.ext hown0 (Ext.alc (Ext.refl wr) (.cells #[.int .i64 (y : Nat)] 3))) ⟨wr.heap.size, 0, none⟩ 1 1 [.int .i64 (y : Nat)] rfl rfl (cell_one_new _ _ _) ?c2 ?c3 ?c4 ?c5 ?_)
            case c2 => first | rfl | (intro uu hu; simp at hu; subst hu; rfl)
            case c3 => unfold maxLen; omega
            case c4 => omega
            case c5 => have := HIN.out.2.2.2; first | omega | (simp; done) | (simp; omega)
            intro v' w5 hown' hgrow _hnil
            clear _hnil
            obtain ⟨A5, c5, rfl⟩ := shape_own hown'
            have hob : ∀ b, (Value.slice Av L cv).ownBlock = some b → w3.heap.size ≤ b := fun b hb => (World.ownsRow.lt hown0 b hb).1
            have hzlt : z < wr.heap.size := (uno HIN.out.1).2.2
            have hzb : w5.heap[z]? = some (.cells #[.slice Av L cv] 24 (0, 0)) := (hgrow.block z (by simp; omega) (fun e => by have := hob z e.symm; omega)).trans ((Below.heap_alloc wr _ z hzlt).trans HIN.out.1)
            obtain ⟨zc0, zf0, zl0⟩ := uno hzb
            have hex : Ext w2 w5 := ext_grow (base := w3.heap.size) (HIN.out.2.2.1.alc _) hgrow (fun b hb => hob b hb) (by have := HZ.out; omega)
            have F1 : (w5.setCell ⟨z, 0, none⟩ (.slice A5 (L + 1) c5)).heap[z]? = some (.cells #[.slice A5 (L + 1) c5] 24 (0, 0)) := by simp [World.setCell, Array.getElem?_modify, hzb]
            have F2 : (w5.setCell ⟨z, 0, none⟩ (.slice A5 (L + 1) c5)).ownsRow w3.heap.size 3 1 (.slice A5 (L + 1) c5) (cd e (d + 1)) (nl (cd e (d + 1)) (fun j => ((dl (tn f) e j : Nat) : Int))) := by
              rw [HY.out.2.2, ← HL.out, nl_succ, HL.out, HY.out.2.1, ← HL.out]
              exact own_keep hown' ⟨z, 0, none⟩ hz3 _
            have F3 : Ext w2 (w5.setCell ⟨z, 0, none⟩ (.slice A5 (L + 1) c5)) := hex.sc (by have := HZ.out; omega)
            have F4 : w3.heap.size ≤ (w5.setCell ⟨z, 0, none⟩ (.slice A5 (L + 1) c5)).heap.size := by have h1 := hgrow.size; have := HIN.out.2.2.2; simp [World.setCell] at h1 ⊢; omega
            have HF := Lib.hid (And.intro F1 (And.intro F2 (And.intro F3 F4)))
            clear F1 F2 F3 F4 hown' hgrow hob hzb hex zl0 hown0 z0
            go_wp2
            go_roundw
            case rel =>
              have h1 := HY.out.2.2
              rw [← HL.out] at h1
              refine ⟨d + 1, .slice A5 (L + 1) c5, by go_num, by omega, ?_⟩
              rw [h1] at HF ⊢
              exact HF
            case measure => simp [intOf]; omega
    · obtain rfl : d = n := by omega
      have hcd : cd e d = d - 2 := by unfold cd; rw [if_neg (by omega)]; split <;> omega
      have hil := ownsRow_il hin.out.2.1
      obtain ⟨z0, -, -⟩ := uno hin.out.1
      have h5 : wo.heap[W.heap.size + 1]? = some (.cells #[.slice none 0 0] 24 (0, 0)) := (Below.block hin.out.2.2.1 _ hmz1).trans H1.out.1
      obtain ⟨c0, f0, -⟩ := uno h5
      have g0 : (wo.setCell ⟨W.heap.size + 1, 0, none⟩ (.slice Av (cd e d) cv)).cell? ⟨W.heap.size + 1, 0, none⟩ = some (.slice Av (cd e d) cv) := World.cell?_setCell_same _ _ _ c0
      have hx5 : Ext W (wo.setCell ⟨W.heap.size + 1, 0, none⟩ (.slice Av (cd e d) cv)) := (HB.out.trans hin.out.2.2.1).sc (by omega)
      have hq5 := ownsRow_il (own_keep hin.out.2.1 ⟨W.heap.size + 1, 0, none⟩ (by show W.heap.size + 1 < w3.heap.size; omega) (.slice Av (cd e d) cv))
      have HF := Lib.hid (And.intro hq5 (And.intro hx5 hcd))
      clear h5 hx5 hq5 hil hcd
      go_wp2
      exact bodyPost_ret (v := .agg #[.slice Av (cd e d) cv]) (by simp [results, Try.results25, go_sem, g0]) rfl ⟨_, rfl, by rw [← HF.out.2.2]; exact HF.out.1, HF.out.2.1⟩
end Go.Proofs.Ytijhbmdbnnmogaa.G
namespace Go.Proofs.Ytijhbmdbnnmogaa.G
open Go.RowKit

set_option maxHeartbeats 4000000 in
set_option maxRecDepth 100000 in
theorem dualS_own (n : Nat) (f : Nat → Int) (NV : Value) (W : World) (hN : Il W NV n f) (hn : n ≤ 80) (hev : n % 2 = 0) :
    Calls Try.prog 40 #[.agg #[NV]] W fun e W' => ∃ g, e = .returned (.agg #[.slice (some ⟨g, 0, none⟩) n n]) ∧ W.heap.size ≤ g ∧ BI W' g n (fun d => f (rev d)) ∧ Ext W W' := by
  have HN := Lib.hid hN; have HEV := Lib.hid hev
  clear hev
  obtain ⟨A, c, rfl, hac, hcm, -⟩ := hN
  have hm1 : ∀ w, (Instr.makeSlice 22 (.int .i64 (n : Int)) (.int .i64 (n : Int))).run Try.prog w = .ok (.slice (some ⟨w.heap.size, 0, none⟩) n n) (w.alloc (.cells (Array.ofFn fun _ : Fin n => .int .i64 0) 3)) := fun w => make_one 22 3 _ 8 Try.underlying22 info3 rfl (by omega) n (by omega) w
  go_enter Try.func40, Try.ntmps40
  go_upto_region 1 with fail
  have bb := al2 W (.cells #[.slice A n c] 28) (.cells #[.slice none 0 0] 28)
  have h0 := (Below.heap_alloc (W.alloc (.cells #[.slice A n c] 28)) (.cells #[.slice none 0 0] 28) W.heap.size (by simp)).trans (heap_alloc_new W (.cells #[.slice A n c] 28))
  have h1 := heap_alloc_new (W.alloc (.cells #[.slice A n c] 28)) (.cells #[.slice none 0 0] 28)
  simp only [World.size_alloc] at h1
  generalize (W.alloc (.cells #[.slice A n c] 28)).alloc (.cells #[.slice none 0 0] 28) = w2 at *
  obtain ⟨m0, -, mz⟩ := uno h0
  have HB : Hid (Ext W w2) := Lib.hid bb
  have H1 := Lib.hid (And.intro h0 h1)
  have hmz1 : W.heap.size + 1 < w2.heap.size := (uno h1).2.2
  clear bb h0 h1
  go_upto_region 2 with fail
  have y1 : BI (w2.alloc (.cells (Array.ofFn fun _ : Fin n => Value.int .i64 0) 3)) w2.heap.size n (fun _ => 0) := heap_alloc_new w2 _
  have e1 : Ext w2 (w2.alloc (.cells (Array.ofFn fun _ : Fin n => Value.int .i64 0) 3)) := Ext.alc (Ext.refl _) _
  obtain ⟨g, hg⟩ : ∃ g, g = w2.heap.size := ⟨_, rfl⟩
  rw [← hg] at y1 ⊢
  have hgW : w2.heap.size ≤ g := by omega
  generalize w2.alloc (.cells (Array.ofFn fun _ : Fin n => Value.int .i64 0) 3) = w3 at *
  have HY := Lib.hid (And.intro y1 e1)
  clear y1 e1 hg m0 hm1
  go_wp2_with fail
  go_loopw [11] (fun i wr => ∃ k : Nat, i = .int .i64 k ∧ k ≤ n ∧ Hid (BI wr g n (fun j => if j < k then f (rev j) else 0) ∧ Ext w2 wr)) (fun i _ => n - (intOf i).toNat)
  case atStart => exact ⟨0, rfl, Nat.zero_le _, Lib.hid ⟨Bk.congr HY.out.1 (fun j _ => by simp), HY.out.2⟩⟩
  case round =>
    clear HY
    obtain ⟨k, rfl, hk, hin⟩ := hrel
    obtain ⟨wo, rfl⟩ : ∃ w, w = wr := ⟨_, rfl⟩
    by_cases hlt : k < n
    · have m0 := keepAt hin.out.2 mz (uno H1.out.1).1
      go_wp2_with fail
      refine (follow_any n f _ k _ (HN.out.ext (HB.out.trans hin.out.2)) hlt (by omega) HEV.out).mono ?_
      rintro e w4 ⟨rfl, hxx⟩
      clear m0
      replace hin := Lib.hid (And.intro (hin.out.1.ext hxx) (hin.out.2.trans hxx))
      clear hxx
      have c1 := Bk.cell hin.out.1 hlt
      have f1 := Bk.free hin.out.1 k
      obtain ⟨z, hz⟩ : ∃ z, z = f (rev k) := ⟨_, rfl⟩
      rw [← hz]
      have HF := Lib.hid (And.intro (BI.set_ hin.out.1 k z) (And.intro (hin.out.2.sc (v := .int .i64 z) (i := k) hgW) hz))
      clear hin hz
      go_wp2
      go_roundw
      case rel =>
        refine ⟨k + 1, by go_num, by omega, Lib.hid ⟨Bk.congr HF.out.1 (fun j _ => ?_), HF.out.2.1⟩⟩
        congr 1
        by_cases e : j = k
        · subst e; rw [up_self]; dsimp only; rw [if_pos (by omega), HF.out.2.2]
        · rw [up_ne _ _ e]
          dsimp only
          by_cases e2 : j < k
          · rw [if_pos e2, if_pos (by omega)]
          · rw [if_neg e2, if_neg (by omega)]
      case measure => simp [intOf]; omega
    · obtain rfl : k = n := by omega
      have h5 : wo.heap[W.heap.size + 1]? = some (.cells #[.slice none 0 0] 28 (0, 0)) := (Below.block hin.out.2 _ hmz1).trans H1.out.2
      obtain ⟨c0, f0, -⟩ := uno h5
      have g0 : (wo.setCell ⟨W.heap.size + 1, 0, none⟩ (.slice (some ⟨g, 0, none⟩) k k)).cell? ⟨W.heap.size + 1, 0, none⟩ = some (.slice (some ⟨g, 0, none⟩) k k) := World.cell?_setCell_same _ _ _ c0
      have hx5 : Ext W (wo.setCell ⟨W.heap.size + 1, 0, none⟩ (.slice (some ⟨g, 0, none⟩) k k)) := (HB.out.trans hin.out.2).sc (by omega)
      have hb5 : BI (wo.setCell ⟨W.heap.size + 1, 0, none⟩ (.slice (some ⟨g, 0, none⟩) k k)) g k (fun d => f (rev d)) := Bk.far (Bk.congr hin.out.1 (fun j hj => by dsimp only; rw [if_pos hj])) (by show g ≠ W.heap.size + 1; omega) _
      have HF := Lib.hid (And.intro hb5 hx5)
      clear h5 hx5 hb5 hin
      go_wp2
      exact bodyPost_ret (v := .agg #[.slice (some ⟨g, 0, none⟩) k k]) (by simp [results, Try.results40, go_sem, g0]) rfl ⟨g, rfl, by omega, HF.out.1, HF.out.2⟩

set_option maxHeartbeats 4000000 in
set_option maxRecDepth 100000 in
theorem dualS_any (n : Nat) (f : Nat → Int) (NV : Value) (W : World) (hN : Il W NV n f) :
    Calls Try.prog 20 #[.agg #[NV]] W fun e W' => ∃ V er, e = .returned (.tuple #[.agg #[V], .int .i64 er]) ∧ Ext W W' ∧
      ((vMap n f = false ∧ V = .slice none 0 0 ∧ er = 2) ∨ (vMap n f = true ∧ er = 0 ∧ Il W' V n (fun d => f (rev d)))) := by
  have HN := Lib.hid hN
  obtain ⟨A, c, rfl, hac, hcm, -⟩ := hN
  go_enter Try.func20, Try.ntmps20
  go_upto_region 1 with fail
  have bb := al2 W (.cells #[.slice A n c] 28) (.cells #[.slice none 0 0] 28)
  have h0 := (Below.heap_alloc (W.alloc (.cells #[.slice A n c] 28)) (.cells #[.slice none 0 0] 28) W.heap.size (by simp)).trans (heap_alloc_new W (.cells #[.slice A n c] 28))
  have h1 := heap_alloc_new (W.alloc (.cells #[.slice A n c] 28)) (.cells #[.slice none 0 0] 28)
  simp only [World.size_alloc] at h1
  generalize (W.alloc (.cells #[.slice A n c] 28)).alloc (.cells #[.slice none 0 0] 28) = w2 at *
  obtain ⟨m0, -, mz⟩ := uno h0
  have HB : Hid (Ext W w2) := Lib.hid bb
  have HM0 := Lib.hid m0
  have H1 := Lib.hid h1
  have hmz1 : W.heap.size + 1 < w2.heap.size := (uno h1).2.2
  clear bb h0 h1
  go_wp2_with fail
  refine (validS_any n f _ _ (HN.out.ext HB.out)).mono ?_
  rintro e w3 ⟨rfl, hx⟩
  have HX : Hid (Ext w2 w3) := Lib.hid hx
  clear m0
  have m0 := keepAt hx mz HM0.out
  clear hx
  cases hv : vMap n f
  · obtain ⟨c0, f0, -⟩ := uno ((Below.block HX.out _ hmz1).trans H1.out)
    have g0 : (w3.setCell ⟨W.heap.size + 1, 0, none⟩ (.slice none 0 0)).cell? ⟨W.heap.size + 1, 0, none⟩ = some (.slice none 0 0) := World.cell?_setCell_same _ _ _ c0
    have hx5 : Ext W (w3.setCell ⟨W.heap.size + 1, 0, none⟩ (.slice none 0 0)) := (HB.out.trans HX.out).sc (by omega)
    have HV := Lib.hid (And.intro hv hx5)
    clear hv hx5
    go_wp2
    exact bodyPost_ret (v := .tuple #[.agg #[.slice none 0 0], .int .i64 2]) (by simp [results, Try.results20, go_sem, g0]) rfl ⟨_, _, rfl, HV.out.2, .inl ⟨HV.out.1, rfl, rfl⟩⟩
  · have hM := vMap_mp hv
    have hn : n ≤ 80 := hM.le
    have HV := Lib.hid (And.intro hv hM)
    clear hv hM
    go_wp2_with fail
    refine (dualS_own n f _ _ (HN.out.ext (HB.out.trans HX.out)) hn HV.out.2.even).mono ?_
    rintro e w4 ⟨g, rfl, hg, hb, hx⟩
    obtain ⟨c0, f0, -⟩ := uno ((Below.block (HX.out.trans hx) _ hmz1).trans H1.out)
    have hsz := HX.out.size
    have g0 : (w4.setCell ⟨W.heap.size + 1, 0, none⟩ (.slice (some ⟨g, 0, none⟩) n n)).cell? ⟨W.heap.size + 1, 0, none⟩ = some (.slice (some ⟨g, 0, none⟩) n n) := World.cell?_setCell_same _ _ _ c0
    have hx5 : Ext W (w4.setCell ⟨W.heap.size + 1, 0, none⟩ (.slice (some ⟨g, 0, none⟩) n n)) := (HB.out.trans (HX.out.trans hx)).sc (by omega)
    have hb5 : BI (w4.setCell ⟨W.heap.size + 1, 0, none⟩ (.slice (some ⟨g, 0, none⟩) n n)) g n (fun d => f (rev d)) := Bk.far hb (by show g ≠ W.heap.size + 1; omega) _
    have HF := Lib.hid (And.intro (BI.il hb5 (by omega)) hx5)
    clear hx5 hb5 hb hx m0
    go_wp2
    exact bodyPost_ret (v := .tuple #[.agg #[.slice (some ⟨g, 0, none⟩) n n], .int .i64 0]) (by simp [results, Try.results20, go_sem, g0]) rfl ⟨_, _, rfl, HF.out.2, .inr ⟨HV.out.1, rfl, HF.out.1⟩⟩
end Go.Proofs.Ytijhbmdbnnmogaa.G
namespace Go.Proofs.Ytijhbmdbnnmogaa.G
open Go.RowKit

/-- pairs in memory: k of them -/
def Pr (w : World) (v : Value) (k : Nat) (p q : Nat → Nat) : Prop :=
  ∃ A c, v = .slice A k c ∧ k ≤ c ∧ c ≤ 9223372036854775807 ∧ (0 < k → ∃ b off, A = some ⟨b, off, none⟩ ∧ b < w.heap.size ∧ ∀ j, j < k → w.cell? ⟨b, off + j * 2, none⟩ = some (.int .i64 ((p j : Nat) : Int)) ∧ w.cell? ⟨b, off + j * 2 + 1, none⟩ = some (.int .i64 ((q j : Nat) : Int)))
theorem Pr.ext {w w' : World} {v : Value} {k : Nat} {p q : Nat → Nat} (h : Pr w v k p q) (e : Ext w w') : Pr w' v k p q := by
  obtain ⟨A, c, rfl, h1, h2, h3⟩ := h
  refine ⟨A, c, rfl, h1, h2, fun hp => ?_⟩
  obtain ⟨b, off, rfl, hb, hc⟩ := h3 hp
  exact ⟨b, off, rfl, Nat.lt_of_lt_of_le hb e.size, fun j hj => ⟨keepAt e hb (hc j hj).1, keepAt e hb (hc j hj).2⟩⟩
theorem Pr.at {w X : World} {A : Option Addr} {k c : Nat} {p q : Nat → Nat} (h : Pr w (.slice A k c) k p q) (e : Ext w X) {j : Nat} (hj : j < k) :
    ∃ b off, A = some ⟨b, off, none⟩ ∧ X.cell? ⟨b, off + j * 2, none⟩ = some (.int .i64 ((p j : Nat) : Int)) ∧ X.cell? ⟨b, off + j * 2 + 1, none⟩ = some (.int .i64 ((q j : Nat) : Int)) := by
  obtain ⟨A', c', e', h1, h2, h3⟩ := h.ext e
  injection e' with e1 e2 e3
  subst e1 e3
  obtain ⟨b, off, e, hb, hc⟩ := h3 (by omega)
  exact ⟨b, off, e, (hc j hj).1, (hc j hj).2⟩
def boolOf : Value → Bool
  | .bool b => b
  | _ => false
theorem smN_bi {w : World} {g n : Nat} {x : Nat → Int} (h : BI w g n x) : smN (numAt w g) n = smN x n := smN_congr n fun _ hj => numAt_bi h hj

set_option maxHeartbeats 8000000 in
set_option maxRecDepth 100000 in
theorem lowest_any (n np : Nat) (p q : Nat → Nat) (PV : Value) (W : World) (hP : Pr W PV np p q) (hn : n ≤ 1000) (hpq : ∀ i, i < np → p i < n ∧ q i < n) :
    Calls Try.prog 39 #[.int .i64 n, PV] W fun e W' => ∃ (g : Nat) (x : Nat → Int), e = .returned (.slice (some ⟨g, 0, none⟩) n n) ∧ W.heap.size ≤ g ∧ BI W' g n x ∧ Lw n np p q x ∧ (∀ i, i < np → x (p i) = x (q i)) ∧ Ext W W' := by
  have HP := Lib.hid hP; have HPQ := Lib.hid hpq
  obtain ⟨A, c, rfl, hac, hcm, -⟩ := hP
  clear hpq
  have hm1 : ∀ w, (Instr.makeSlice 22 (.int .i64 (n : Int)) (.int .i64 (n : Int))).run Try.prog w = .ok (.slice (some ⟨w.heap.size, 0, none⟩) n n) (w.alloc (.cells (Array.ofFn fun _ : Fin n => .int .i64 0) 3)) := fun w => make_one 22 3 _ 8 Try.underlying22 info3 rfl (by omega) n (by omega) w
  go_enter Try.func39, Try.ntmps39
  go_upto_region 2 with fail
  have y1 : BI (W.alloc (.cells (Array.ofFn fun _ : Fin n => Value.int .i64 0) 3)) W.heap.size n (fun _ => 0) := heap_alloc_new W _
  have e1 : Ext W (W.alloc (.cells (Array.ofFn fun _ : Fin n => Value.int .i64 0) 3)) := Ext.alc (Ext.refl _) _
  obtain ⟨g, hg⟩ : ∃ g, g = W.heap.size := ⟨_, rfl⟩
  rw [← hg] at y1 ⊢
  have hgW : W.heap.size ≤ g := by omega
  generalize W.alloc (.cells (Array.ofFn fun _ : Fin n => Value.int .i64 0) 3) = W1 at *
  have HY := Lib.hid (And.intro y1 e1)
  clear y1 e1 hg hm1
  go_wp2_with fail
  go_loopw [15] (fun i wr => ∃ k : Nat, i = .int .i64 k ∧ k ≤ n ∧ Hid (BI wr g n (fun j => if j < k then (j : Int) else 0) ∧ Ext W wr)) (fun i _ => n - (intOf i).toNat)
  case atStart => exact ⟨0, rfl, Nat.zero_le _, Lib.hid ⟨Bk.congr HY.out.1 (fun j _ => by simp), HY.out.2⟩⟩
  case round =>
    clear HY
    obtain ⟨k, rfl, hk, hin⟩ := hrel
    obtain ⟨wo, rfl⟩ : ∃ w, w = wr := ⟨_, rfl⟩
    by_cases hlt : k < n
    · have c1 := Bk.cell hin.out.1 hlt
      have f1 := Bk.free hin.out.1 k
      have HF := Lib.hid (And.intro (BI.set_ hin.out.1 k (k : Int)) (hin.out.2.sc (v := .int .i64 k) (i := k) hgW))
      clear hin
      go_wp2
      go_roundw
      case rel =>
        refine ⟨k + 1, by go_num, by omega, Lib.hid ⟨Bk.congr HF.out.1 (fun j _ => ?_), HF.out.2⟩⟩
        congr 1
        by_cases e : j = k
        · subst e; rw [up_self]; dsimp only; rw [if_pos (by omega)]
        · rw [up_ne _ _ e]
          dsimp only
          by_cases e2 : j < k
          · rw [if_pos e2, if_pos (by omega)]
          · rw [if_neg e2, if_neg (by omega)]
      case measure => simp [intOf]; omega
    · obtain rfl : k = n := by omega
      have h0 : BI wo g k (fun j => (j : Int)) := Bk.congr hin.out.1 (fun j hj => by dsimp only; rw [if_pos hj])
      have H0 := Lib.hid (And.intro h0 hin.out.2)
      clear h0 hin
      go_wp2_with fail
      go_loopw [7] (fun a wr => ∃ (bb : Bool) (x : Nat → Int), a = .bool bb ∧ Hid (BI wr g k x ∧ Lw k np p q x ∧ (bb = false → ∀ i, i < np → x (p i) = x (q i)) ∧ Ext W wr)) (fun a wr => if boolOf a then smN (numAt wr g) k + 1 else 0)
      case atStart => exact ⟨true, fun j => (j : Int), rfl, Lib.hid ⟨H0.out.1, Lw.start _ _ _ _, fun h => (by cases h), H0.out.2⟩⟩
      case round =>
        clear H0
        obtain ⟨bb, x0, rfl, hin⟩ := hrel
        obtain ⟨wp, rfl⟩ : ∃ w, w = wr := ⟨_, rfl⟩
        cases bb
        · have HD := Lib.hid (And.intro hin.out.1 (And.intro hin.out.2.1 (And.intro (hin.out.2.2.1 rfl) hin.out.2.2.2)))
          clear hin
          go_wp2
          go_ret
          exact ⟨g, x0, rfl, hgW, HD.out.1, HD.out.2.1, HD.out.2.2.1, HD.out.2.2.2⟩
        · have HIN := hin
          clear hin
          go_wp2_with fail
          go_loopw [7, 26] (fun a i wr => ∃ (bb : Bool) (x : Nat → Int) (k' : Nat), a = .bool bb ∧ i = .int .i64 k' ∧ k' ≤ np ∧ Hid (BI wr g k x ∧ Lw k np p q x ∧ (bb = false → (∀ j, x j = x0 j) ∧ ∀ i, i < k' → x (p i) = x (q i)) ∧ (bb = true → smN x k < smN x0 k) ∧ Ext W wr)) (fun _ i _ => np - (intOf i).toNat)
          case atStart => exact ⟨false, x0, 0, rfl, rfl, Nat.zero_le _, Lib.hid ⟨HIN.out.1, HIN.out.2.1, fun _ => ⟨fun _ => rfl, fun i h => by omega⟩, fun h => (by cases h), HIN.out.2.2.2⟩⟩
          case round =>
            obtain ⟨bb, x, k', rfl, rfl, hk', hin⟩ := hrel
            by_cases hlt2 : k' < np
            · obtain ⟨b1, o1, rfl, e1, e2⟩ := HP.out.at hin.out.2.2.2.2 hlt2
              obtain ⟨hpk, hqk⟩ := HPQ.out k' hlt2
              obtain ⟨pk, hp1⟩ : ∃ z, z = p k' := ⟨_, rfl⟩
              obtain ⟨qk, hq1⟩ : ∃ z, z = q k' := ⟨_, rfl⟩
              rw [← hp1] at e1 hpk
              rw [← hq1] at e2 hqk
              obtain ⟨u, hu, hu2, -⟩ := hin.out.2.1 pk hpk
              obtain ⟨v, hv, hv2, -⟩ := hin.out.2.1 qk hqk
              have HIN2 := hin
              have HQ := Lib.hid (And.intro hp1 (And.intro hq1 (And.intro hu hv)))
              clear hin hp1 hq1 hu hv
              go_upto_region 13 with fail
              have hsz : k ≤ 1000 := hn
              obtain ⟨zb, hzb⟩ : ∃ z, z = wr.heap.size := ⟨_, rfl⟩
              have h9 := heap_alloc_new wr (.cells #[.int .i64 (pk : Nat), .int .i64 (qk : Nat)] 59)
              have bi9 : BI (wr.alloc (.cells #[.int .i64 (pk : Nat), .int .i64 (qk : Nat)] 59)) g k x := Bk.alloc HIN2.out.1 _
              have hgz : g ≠ zb := by have := Bk.lt HIN2.out.1; omega
              have x9 : Ext W (wr.alloc (.cells #[.int .i64 (pk : Nat), .int .i64 (qk : Nat)] 59)) := HIN2.out.2.2.2.2.alc _
              rw [← hzb] at h9 ⊢
              generalize wr.alloc (.cells #[.int .i64 (pk : Nat), .int .i64 (qk : Nat)] 59) = w9 at *
              obtain ⟨t0, t1, -⟩ := two h9
              have a0 : w9.drew.cell? ⟨zb, 0, none⟩ = some (.int .i64 (pk : Nat)) := t0
              have a1 : w9.drew.cell? ⟨zb, 1, none⟩ = some (.int .i64 (qk : Nat)) := t1
              have gp : w9.drew.cell? ⟨g, pk, none⟩ = some (.int .i64 (u : Nat)) := (Bk.cell bi9 hpk).trans (by rw [HQ.out.2.2.1])
              have gq : w9.drew.cell? ⟨g, qk, none⟩ = some (.int .i64 (v : Nat)) := (Bk.cell bi9 hqk).trans (by rw [HQ.out.2.2.2])
              have fd : w9.drew.frozen? ⟨g, pk, none⟩ = false := Bk.free bi9 pk
              have gd : w9.drew.frozen? ⟨g, qk, none⟩ = false := Bk.free bi9 qk
              have HA := Lib.hid (And.intro (Bk.drew bi9) (And.intro a0 (And.intro a1 (And.intro gp (And.intro gq (And.intro fd x9.drw))))))
              clear h9 bi9 x9 t0 t1 e1 e2 hzb
              rcases Nat.lt_trichotomy u v with huv | huv | huv
              · have hmin : min (u : Int) (v : Int) = (u : Int) := by omega
                have hne1 : ((u : Int) != (u : Int)) = false := by simp
                have hne2 : ((v : Int) != (u : Int)) = true := by simp; omega
                go_region
                clear a0 a1 gp gq fd gd hmin
                have b0 := HA.out.2.1; have b1' := HA.out.2.2.1
                have gp := HA.out.2.2.2.1; have gq := HA.out.2.2.2.2.1; have fr := HA.out.2.2.2.2.2.1
                generalize w9.drew = w10 at *
                have s1 : BI (w10.setCell ⟨g, pk, none⟩ (.int .i64 u)) g k (up x pk u) := BI.set_ HA.out.1 pk u
                have s2 : BI ((w10.setCell ⟨g, pk, none⟩ (.int .i64 u)).setCell ⟨g, qk, none⟩ (.int .i64 u)) g k (up (up x pk u) qk u) := BI.set_ s1 qk u
                have c0 : (w10.setCell ⟨g, pk, none⟩ (.int .i64 u)).cell? ⟨zb, 1, none⟩ = some (.int .i64 (qk : Nat)) := (World.cell?_setCell_other _ _ _ _ (by intro e; injection e with e1 e2; exact hgz e1)).trans b1'
                have cq : (w10.setCell ⟨g, pk, none⟩ (.int .i64 u)).cell? ⟨g, qk, none⟩ = some (.int .i64 (up x pk u qk)) := Bk.cell s1 hqk
                have fq : (w10.setCell ⟨g, pk, none⟩ (.int .i64 u)).frozen? ⟨g, qk, none⟩ = false := Bk.free s1 qk
                have x3 : Ext W ((w10.setCell ⟨g, pk, none⟩ (.int .i64 u)).setCell ⟨g, qk, none⟩ (.int .i64 u)) := (HA.out.2.2.2.2.2.2.sc hgW).sc hgW
                have HF := Lib.hid (And.intro s2 x3)
                clear s1 s2 x3
                go_wp2
                go_roundw
                case rel =>
                  have hw := HIN2.out.2.1
                  have hm : ((u : Nat) : Int) = min (x (p k')) (x (q k')) := by rw [← HQ.out.1, ← HQ.out.2.1, HQ.out.2.2.1, HQ.out.2.2.2]; omega
                  have hl1 := hw.step hlt2 (HPQ.out k' hlt2).1 (HPQ.out k' hlt2).2 hm
                  have hl2 := hw.less (HPQ.out k' hlt2).1 (HPQ.out k' hlt2).2 hm (by rw [← HQ.out.1, ← HQ.out.2.1, HQ.out.2.2.1, HQ.out.2.2.2]; omega)
                  rw [← HQ.out.1, ← HQ.out.2.1] at hl1 hl2
                  refine ⟨true, _, k' + 1, rfl, by go_num, by omega, Lib.hid ⟨HF.out.1, hl1, fun h => (by cases h), fun _ => ?_, HF.out.2⟩⟩
                  cases bb
                  · have h3 := (HIN2.out.2.2.1 rfl).1
                    rw [← smN_congr (x := x) (y := x0) k (fun j _ => h3 j)]; exact hl2
                  · exact Nat.lt_trans hl2 (HIN2.out.2.2.2.1 rfl)
                case measure => simp [intOf]; omega
              · subst huv
                have hmin : min (u : Int) (u : Int) = (u : Int) := by omega
                have hne : ((u : Int) != (u : Int)) = false := by simp
                go_region
                clear a0 a1 gp gq fd gd hmin
                have b0 := HA.out.2.1; have b1' := HA.out.2.2.1
                have gp := HA.out.2.2.2.1; have gq := HA.out.2.2.2.2.1
                generalize w9.drew = w10 at *
                have HB := Lib.hid (And.intro HA.out.1 HA.out.2.2.2.2.2.2)
                go_wp2
                go_roundw
                case rel =>
                  refine ⟨bb, x, k' + 1, rfl, by go_num, by omega, Lib.hid ⟨HB.out.1, HIN2.out.2.1, fun h => ⟨(HIN2.out.2.2.1 h).1, fun i hi => ?_⟩, HIN2.out.2.2.2.1, HB.out.2⟩⟩
                  by_cases e : i = k'
                  · subst e; rw [← HQ.out.1, ← HQ.out.2.1, HQ.out.2.2.1, HQ.out.2.2.2]
                  · exact (HIN2.out.2.2.1 h).2 i (by omega)
                case measure => simp [intOf]; omega
              · have hmin : min (u : Int) (v : Int) = (v : Int) := by omega
                have hne1 : ((u : Int) != (v : Int)) = true := by simp; omega
                have hne2 : ((v : Int) != (v : Int)) = false := by simp
                go_region
                clear a0 a1 gp gq fd gd hmin
                have b0 := HA.out.2.1; have b1' := HA.out.2.2.1
                have gp := HA.out.2.2.2.1; have gq := HA.out.2.2.2.2.1; have fr := HA.out.2.2.2.2.2.1
                generalize w9.drew = w10 at *
                have s1 : BI (w10.setCell ⟨g, pk, none⟩ (.int .i64 v)) g k (up x pk v) := BI.set_ HA.out.1 pk v
                have s2 : BI ((w10.setCell ⟨g, pk, none⟩ (.int .i64 v)).setCell ⟨g, qk, none⟩ (.int .i64 v)) g k (up (up x pk v) qk v) := BI.set_ s1 qk v
                have c0 : (w10.setCell ⟨g, pk, none⟩ (.int .i64 v)).cell? ⟨zb, 1, none⟩ = some (.int .i64 (qk : Nat)) := (World.cell?_setCell_other _ _ _ _ (by intro e; injection e with e1 e2; exact hgz e1)).trans b1'
                have cq : (w10.setCell ⟨g, pk, none⟩ (.int .i64 v)).cell? ⟨g, qk, none⟩ = some (.int .i64 (up x pk v qk)) := Bk.cell s1 hqk
                have fq : (w10.setCell ⟨g, pk, none⟩ (.int .i64 v)).frozen? ⟨g, qk, none⟩ = false := Bk.free s1 qk
                have x3 : Ext W ((w10.setCell ⟨g, pk, none⟩ (.int .i64 v)).setCell ⟨g, qk, none⟩ (.int .i64 v)) := (HA.out.2.2.2.2.2.2.sc hgW).sc hgW
                have HF := Lib.hid (And.intro s2 x3)
                clear s1 s2 x3
                go_wp2
                go_roundw
                case rel =>
                  have hw := HIN2.out.2.1
                  have hm : ((v : Nat) : Int) = min (x (p k')) (x (q k')) := by rw [← HQ.out.1, ← HQ.out.2.1, HQ.out.2.2.1, HQ.out.2.2.2]; omega
                  have hl1 := hw.step hlt2 (HPQ.out k' hlt2).1 (HPQ.out k' hlt2).2 hm
                  have hl2 := hw.less (HPQ.out k' hlt2).1 (HPQ.out k' hlt2).2 hm (by rw [← HQ.out.1, ← HQ.out.2.1, HQ.out.2.2.1, HQ.out.2.2.2]; omega)
                  rw [← HQ.out.1, ← HQ.out.2.1] at hl1 hl2
                  refine ⟨true, _, k' + 1, rfl, by go_num, by omega, Lib.hid ⟨HF.out.1, hl1, fun h => (by cases h), fun _ => ?_, HF.out.2⟩⟩
                  cases bb
                  · have h3 := (HIN2.out.2.2.1 rfl).1
                    rw [← smN_congr (x := x) (y := x0) k (fun j _ => h3 j)]; exact hl2
                  · exact Nat.lt_trans hl2 (HIN2.out.2.2.2.1 rfl)
                case measure => simp [intOf]; omega
            · obtain rfl : k' = np := by omega
              have HX := hin
              clear hin
              go_wp2
              go_roundw
              case rel => exact ⟨bb, x, rfl, Lib.hid ⟨HX.out.1, HX.out.2.1, fun h => (HX.out.2.2.1 h).2, HX.out.2.2.2.2⟩⟩
              case measure =>
                cases bb
                · simp [boolOf]
                · have := HX.out.2.2.2.1 rfl
                  simp only [boolOf, if_true]
                  rw [smN_bi HX.out.1, smN_bi HIN.out.1]
                  omega
end Go.Proofs.Ytijhbmdbnnmogaa.G
