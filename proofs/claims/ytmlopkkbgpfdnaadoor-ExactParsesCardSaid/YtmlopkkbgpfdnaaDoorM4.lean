/- Walks: the text of a natural number. · Walks: minus, compare, times of whole numbers. · Walks: naturals of ints; results copied. · Walks: Valid, allValid. · Walks: combine, Add, Sub, Mul, Cmp. · Walks: the text of a whole number; exact.Print. · Walks: the reference's naturals: less. -/
import Derived.Test.YtmlopkkbgpfdnaaDoorM2
import Derived.Test.YtmlopkkbgpfdnaaDoorM3
import Derived.Laws.CopyOwn
namespace Go.Proofs.YtmlopkkbgpfdnaaDoor
open Go.RowKit

def sLen : Value → Nat
  | .slice _ n _ => n
  | _ => 0

theorem tab_below {w w' : World} {name : String} {k : IntKind} {zs : List Int} (h : Lib.TabIs Tryd.prog w name k zs) (hb : Below w.heap.size w w') : Lib.TabIs Tryd.prog w' name k zs := by
  unfold Lib.TabIs World.var? at *
  cases hg : Tryd.prog.globalNamed name with
  | none => simp [hg] at h
  | some g =>
    simp only [hg, Option.bind_some] at h ⊢
    have hlt : g < w.heap.size := by
      rcases Nat.lt_or_ge g w.heap.size with h' | h'
      · exact h'
      · simp [Array.getElem?_eq_none h'] at h
    rw [hb.block g hlt]
    exact h

/-- the table of the powers of ten -/
abbrev Tab (w : World) : Prop := Lib.TabIs Tryd.prog w "internal/strconv.uint64pow10" .u64 Lib.pow10Tab

theorem formatUint_pub (u : Nat) (hu64 : u < 18446744073709551616) (w : World) (htab : Tab w) :
    Calls Tryd.prog 44 #[.int .u64 u, .int .i64 10] w fun e w' => e = .returned (.string ⟨(dec u).toArray⟩) ∧ Below w.heap.size w w' := by
  go_enter Tryd.func44, Tryd.ntmps44
  go_wp2_with (go_at_call 61; refine (formatUint_any u hu64 _ htab).mono ?_; rintro e w' ⟨rfl, hb⟩)
  go_ret
  exact ⟨rfl, hb⟩

theorem groups_le {n k : Nat} (h : k = 0 ∨ 0 < n / 1000000000 ^ (k - 1)) : k ≤ n := by
  rcases h with h | h
  · omega
  · have h1 : 1000000000 ^ (k - 1) ≤ n := by
      rcases Nat.lt_or_ge n (1000000000 ^ (k - 1)) with h' | h'
      · rw [Nat.div_eq_of_lt h'] at h; omega
      · exact h'
    have h2 := Nat.lt_pow_self (n := k - 1) (show 1 < 1000000000 by decide)
    omega

theorem groups_few {n k L : Nat} (h : k = 0 ∨ 0 < n / 1000000000 ^ (k - 1)) (hn : n < 4294967296 ^ L) : k ≤ 2 * L := by
  rcases h with h | h
  · omega
  · have h1 : 1000000000 ^ (k - 1) ≤ n := by
      rcases Nat.lt_or_ge n (1000000000 ^ (k - 1)) with h' | h'
      · rw [Nat.div_eq_of_lt h'] at h; omega
      · exact h'
    have h2 : 4294967296 ^ L ≤ 1000000000 ^ (2 * L) := by
      rw [Nat.pow_mul]
      exact Nat.pow_le_pow_left (by decide) L
    have h3 : 1000000000 ^ (k - 1) < 1000000000 ^ (2 * L) := by omega
    have := (Nat.pow_lt_pow_iff_right (by decide)).1 h3
    omega

theorem own_slice {w : World} {base : Nat} {v : Value} {ds : List Nat} (h : w.ownsRow base 45 1 v ds.length (ds.map uw)) : sLen v = ds.length := by
  obtain ⟨h1, h2 | ⟨g, cap, cur, rfl, hg, hh, hn, hcap, hsz, htake⟩⟩ := h
  · obtain ⟨rfl, hn⟩ := h2; simp [sLen, hn]
  · rfl

theorem own_below {w w' : World} {base : Nat} {v : Value} {n : Nat} {xs : List Value} {t : TypeId} {s : Nat} (h : w.ownsRow base t s v n xs) (hb : Below w.heap.size w w') : w'.ownsRow base t s v n xs := by
  refine ⟨h.1, ?_⟩
  rcases h.2 with h0 | ⟨g, cap, cur, hv, hbg, hg, rest⟩
  · exact .inl h0
  · exact .inr ⟨g, cap, cur, hv, hbg, (hb.block g (Array.getElem?_eq_some_iff.1 hg).1).trans hg, rest⟩

theorem wd_grown {w w' : World} {v : Value} {l : List Nat} {row : Option Nat} (h : Wd w v l) (hg : w.grownBy w' row) (hf : ∀ a n c, v = .slice (some a) n c → ∀ k, row = some k → k ≠ a.block) : Wd w' v l := by
  obtain ⟨A, c, rfl, h1, h2, h3, h4⟩ := h
  refine ⟨A, c, rfl, h1, h2, h3, fun hp => ?_⟩
  obtain ⟨b, off, rfl, hb', hc⟩ := h4 hp
  exact ⟨b, off, rfl, Nat.lt_of_lt_of_le hb' hg.size, fun j hj => (World.cell?_of_block (w := w) (hg.block b hb' (fun e => hf _ _ _ rfl b e.symm rfl))).trans (hc j hj)⟩

/-- what loop over the groups leaves -/
structure Groups (n : Nat) (B : Nat) (w : World) (v : Value) (k : Nat) (ds : List Nat) : Prop where
  len : ds.length = k
  ok : Ok ds
  own : w.ownsRow B 45 1 v ds.length (ds.map uw)
  at_ : ∀ j, j < k → ds.getD j 0 = n / 1000000000 ^ j % 1000000000
  top : k = 0 ∨ 0 < n / 1000000000 ^ (k - 1)

set_option maxHeartbeats 1600000 in
set_option maxRecDepth 100000 in
theorem natText_any (n : Nat) (u : Value) (w : World) (hx : Wd w u (dig n)) (lx : (dig n).length ≤ 1000) (htab : Tab w) :
    Calls Tryd.prog 29 #[u] w fun e w' => e = .returned (.string ⟨(dec n).toArray⟩) ∧ Below w.heap.size w w' := by
  obtain ⟨i0, hi, hz0, hz1, hz2⟩ := info_parts info45
  have Hx := Lib.hid hx
  obtain ⟨A, c, rfl, -, -⟩ := hx.shape
  have Htab := Lib.hid htab; clear htab
  have hlt := lt_of_dig_len lx
  have hdl : (dec n).length ≤ 10000 := dec_len_words hlt (by decide)
  by_cases h0 : n = 0
  · subst h0
    rw [dig_zero] at Hx ⊢
    clear hx
    go_enter Tryd.func29, Tryd.ntmps29
    go_wp2
    go_ret
    exact ⟨by rw [dec_small (by decide)]; rfl, Below.refl _ _⟩
  have hl0 : 0 < (dig n).length := dig_len_pos.2 (by omega)
  have Hlt := Lib.hid hlt; clear hlt
  have Hdl := Lib.hid hdl; clear hdl
  have Hlx := Lib.hid lx; clear lx
  clear hx
  obtain ⟨nl, hnl⟩ : ∃ nl, nl = (dig n).length := ⟨_, rfl⟩
  have Hnl := Lib.hid hnl
  rw [← hnl] at Hx hl0 ⊢
  clear hnl
  have hz : ((nl : Int) == 0) = false := by simp; omega
  go_enter Tryd.func29, Tryd.ntmps29
  go_wp2_with fail
  go_loopw [0, 3] (fun av gv wr => ∃ (k : Nat) (ds : List Nat), Wd wr av (dig (n / 1000000000 ^ k)) ∧ Groups n w.heap.size wr gv k ds ∧ Below w.heap.size w wr) (fun _ gv _ => n - sLen gv)
  case atStart => exact ⟨0, [], by rw [Nat.pow_zero, Nat.div_one]; have := Hx.out; rw [Hnl.out] at this ⊢; exact this, ⟨rfl, Ok.nil, World.ownsRow_nil _ _ _ _, fun j hj => absurd hj (by omega), Or.inl rfl⟩, Below.refl _ _⟩
  case round =>
    obtain ⟨k, ds, hav, hgr, hbel⟩ := hrel
    have Hgr := Lib.hid hgr; clear hgr
    have Hav := Lib.hid hav
    obtain ⟨A1, c1, rfl, -, -⟩ := hav.shape
    clear hav
    obtain ⟨m, hm⟩ : ∃ m, m = n / 1000000000 ^ k := ⟨_, rfl⟩
    rw [← hm] at Hav ⊢
    have Hm := Lib.hid hm; clear hm
    by_cases hm0 : m = 0
    · subst hm0
      rw [dig_zero, List.length_nil]
      have hK : 1 ≤ k := by
        rcases Nat.eq_zero_or_pos k with hz | hz
        · subst hz
          have := Hm.out
          rw [Nat.pow_zero, Nat.div_one] at this
          omega
        · exact hz
      have hw := Wd.of_own Hgr.out.own Hgr.out.ok
      have hkl := Hgr.out.len
      obtain ⟨A3, c3, rfl, -, -⟩ := hw.shape
      rw [hkl] at hw ⊢
      obtain ⟨b3, o3, hA, hb3, hc3⟩ : ∃ b off, A3 = some ⟨b, off, none⟩ ∧ b < wr.heap.size ∧ ∀ j, j < k → wr.cell? ⟨b, off + j, none⟩ = some (.int .u32 (ds.getD j 0 : Nat)) := by
        obtain ⟨A', c', he, -, -, -, h4⟩ := hw
        injection he with e1 e2 e3
        subst e1
        obtain ⟨b, off, h5, h6, h7⟩ := h4 (by omega)
        exact ⟨b, off, h5, h6, fun j hj => h7 j (by omega)⟩
      subst hA
      clear hw hkl
      have hkn : k ≤ 2000 := groups_few Hgr.out.top Hlt.out
      have HC := Lib.hid hc3; clear hc3
      have Hbel := Lib.hid hbel; clear hbel
      go_wp2_with fail
      have hbld : Lib.IsBuilderF 80 5 wr.heap.size wr.heap.size (Lib.byteCells []) (wr.alloc (.cells #[.pointer none, .slice none 0 0] 80)) :=
        .inl ⟨Nat.le_refl _, .slice none 0 0, heap_alloc_new _ _, World.ownsRowF_nil _ _ _ _, by simp [Value.ownBlock]⟩
      have hb0 := below_alloc wr (.cells #[.pointer none, .slice none 0 0] 80)
      go_loopw [7] (fun iv wx => ∃ j : Nat, iv = .int .i64 ((j : Int) - 1) ∧ j ≤ k ∧ Lib.IsBuilderF 80 5 wr.heap.size wr.heap.size (Lib.byteCells (if j = k then [] else dec (n / 1000000000 ^ j))) wx ∧ Below wr.heap.size wr wx) (fun iv _ => (intOf iv + 1).toNat)
      case atStart => exact ⟨k, rfl, Nat.le_refl _, by rw [if_pos rfl]; exact hbld, hb0⟩
      case round =>
        obtain ⟨j, rfl, hjk, hbl, hb1⟩ := hrel
        rename World => WX
        have Hbl := Lib.hid hbl; clear hbl
        by_cases hj0 : j = 0
        · subst hj0
          have hfin : (if 0 = k then ([] : List UInt8) else dec (n / 1000000000 ^ 0)) = dec n := by rw [if_neg (by omega), Nat.pow_zero, Nat.div_one]
          rw [hfin] at Hbl
          clear hfin
          go_wp2_with fail
          refine (Tryd.Builder_String_any_k _ _ _ _ Hbl.out hb1.size).mono ?_
          rintro e w5 ⟨rfl, -, hb5, -⟩
          go_wp2
          go_ret
          exact ⟨rfl, Hbel.out.trans ((hb1.mono (Nat.le_refl _)).trans hb5 |>.mono Hbel.out.size)⟩
        · obtain ⟨j, rfl⟩ : ∃ i, j = i + 1 := ⟨j - 1, by omega⟩
          have hce := (hb1.cell (p := ⟨b3, o3 + j, none⟩) hb3).trans (HC.out j (by omega))
          obtain ⟨g, hg⟩ : ∃ g, g = ds.getD j 0 := ⟨_, rfl⟩
          rw [← hg] at hce
          have hgv := Hgr.out.at_ j (by omega)
          rw [← hg] at hgv
          have hgl : g < 1000000000 := by rw [hgv]; exact Nat.mod_lt _ (by decide)
          have Hgv := Lib.hid hgv; clear hgv hg
          have hjn : 0 ≤ ((j : Nat) : Int) := by omega
          have i1 : ((j + 1 : Nat) : Int) - 1 = (j : Int) := by omega
          rw [i1]
          clear i1
          have HT1 : Hid (Tab WX) := Lib.hid (tab_below (tab_below Htab.out Hbel.out) hb1)
          go_wp2_with fail
          refine (formatUint_pub g (by omega) WX HT1.out).mono ?_
          rintro e w5 ⟨rfl, hb5⟩
          have hdl1 := dec_len g
          have hdl9 := group_len g hgl
          obtain ⟨sg, hsg⟩ : ∃ s : ByteArray, s = ⟨(dec g).toArray⟩ := ⟨_, rfl⟩
          have hsz : sg.size = (dec g).length := by rw [hsg]; rfl
          rw [← hsz] at hdl1 hdl9
          rw [← hsg]
          have Hsg := Lib.hid hsg; clear hsg
          have Hsz := Lib.hid hsz; clear hsz
          have hB5 := Lib.hid (builder_later Hbl.out hb5)
          have hb6 := hb1.trans (hb5.mono hb1.size)
          by_cases hjk1 : j + 1 = k
          · rw [if_pos hjk1] at hB5
            have hlen0 : (Lib.byteCells ([] : List UInt8)).length = 0 := rfl
            go_wp2_with (first
              | (go_at_call 45; refine (Tryd.Builder_Len_f _ _ _ _ hB5.out).mono ?_; rintro e w6 ⟨rfl, rfl⟩)
              | (go_at_call 46; refine (bWrite _ _ _ sg _ hB5.out (by rw [hlen0]; omega) hb6.size).mono ?_; rintro e w6 ⟨rfl, hB6, hb7⟩))
            go_roundw
            case rel =>
              refine ⟨j, rfl, by omega, ?_, hb6.trans hb7⟩
              have e : (if j = k then ([] : List UInt8) else dec (n / 1000000000 ^ j)) = dec g := by
                rw [if_neg (by omega), Hgv.out]
                congr 1
                have := Hm.out
                rw [← hjk1, gdiv_succ] at this
                omega
              rw [e]
              have e2 : Lib.byteCells ([] : List UInt8) ++ Lib.strCells sg = Lib.byteCells (dec g) := by rw [Hsg.out]; rfl
              rw [e2] at hB6
              exact hB6
            case measure => simp [intOf]
          · rw [if_neg hjk1] at hB5
            obtain ⟨q, hq⟩ : ∃ q, q = n / 1000000000 ^ (j + 1) := ⟨_, rfl⟩
            rw [← hq] at hB5
            have hq0 : 0 < q := by
              rw [hq]
              exact gdiv_pos ((Hgr.out.top).resolve_left (by omega)) (by omega)
            have hql : (dec q).length ≤ 10000 := dec_len_words (Nat.lt_of_le_of_lt (by rw [hq]; exact Nat.div_le_self _ _) Hlt.out) (by decide)
            have hq1 := dec_len q
            obtain ⟨lq, hlq⟩ : ∃ x, x = (Lib.byteCells (dec q)).length := ⟨_, rfl⟩
            have hlq2 : lq = (dec q).length := by rw [hlq, Lib.byteCells_length]
            rw [← hlq2] at hql hq1
            have Hlq2 := Lib.hid hlq2; clear hlq2
            have Hq := Lib.hid hq; clear hq
            obtain ⟨pad, hpad⟩ : ∃ x : Nat, x = 9 - sg.size := ⟨_, rfl⟩
            have hpi : (9 : Int) - (sg.size : Int) = (pad : Int) := by omega
            have hpl : pad ≤ 8 := by omega
            have Hpad := Lib.hid hpad; clear hpad
            obtain ⟨zs, hzs⟩ : ∃ s : ByteArray, s = ⟨(Lib.repeatL [48] pad).toArray⟩ := ⟨_, rfl⟩
            have hzl : zs.size = pad := by
              have h1 : zs.size = (Lib.repeatL [48] pad).length := by rw [hzs]; rfl
              rw [h1, Lib.repeatL_length]; simp
            have Hlq := Lib.hid hlq; clear hlq
            go_wp2_with (first
              | (go_at_call 45; refine (Tryd.Builder_Len_f _ _ _ _ hB5.out).mono ?_; rintro e w6 ⟨rfl, rfl⟩; rw [← Hlq.out]))
            refine (Tryd.strings_Repeat ⟨#[48]⟩ pad _ (by omega) (by show 1 * pad ≤ _; omega)).mono ?_
            rintro e w7 ⟨rfl, hb7⟩
            have ez : (⟨(Lib.repeatL (⟨#[48]⟩ : ByteArray).data.toList pad).toArray⟩ : ByteArray) = zs := hzs.symm
            rw [ez]
            clear ez
            have Hzs := Lib.hid hzs; clear hzs
            have hB7 := Lib.hid (builder_later hB5.out hb7); clear hB5
            have hb8 := hb6.trans (hb7.mono hb6.size)
            go_wp2_with fail
            refine (bWrite _ _ _ zs _ hB7.out (by rw [← Hlq.out]; omega) hb8.size).mono ?_
            rintro e w8 ⟨rfl, hB8, hb9⟩
            have hB8' := Lib.hid hB8; clear hB8
            have hb10 := hb8.trans hb9
            go_wp2_with fail
            refine (bWrite _ _ _ sg _ hB8'.out (by rw [List.length_append, Lib.strCells_length, ← Hlq.out]; omega) hb10.size).mono ?_
            rintro e w9 ⟨rfl, hB9, hb11⟩
            have HB9 := Lib.hid hB9; clear hB9
            go_wp2
            go_roundw
            case rel =>
              refine ⟨j, rfl, by omega, ?_, hb10.trans hb11⟩
              have e : (if j = k then ([] : List UInt8) else dec (n / 1000000000 ^ j)) = dec q ++ (List.replicate (9 - (dec g).length) 48 ++ dec g) := by
                have hqe : n / 1000000000 ^ j / 1000000000 = q := by rw [Hq.out, gdiv_succ]
                rw [if_neg (by omega), dec_group _ (by rw [hqe]; exact hq0), hqe, ← Hgv.out]
              rw [e]
              have e2 : Lib.byteCells (dec q) ++ Lib.strCells zs ++ Lib.strCells sg = Lib.byteCells (dec q ++ (List.replicate (9 - (dec g).length) 48 ++ dec g)) := by
                have e3 : Lib.strCells zs = Lib.byteCells (List.replicate (9 - (dec g).length) 48) := by
                  have e4 := Lib.repeatL_replicate 48 1 pad
                  rw [Hzs.out, ← Hsz.out, ← Hpad.out]
                  show Lib.byteCells (Lib.repeatL [48] pad) = _
                  rw [Nat.mul_one] at e4
                  exact congrArg _ e4
                have e5 : Lib.strCells sg = Lib.byteCells (dec g) := by rw [Hsg.out]; rfl
                rw [e3, e5, Lib.byteCells_append, Lib.byteCells_append, List.append_assoc]
              rw [← e2]
              exact HB9.out
            case measure => simp [intOf]
    · have hm1 : 0 < m := by omega
      have hml : 0 < (dig m).length := dig_len_pos.2 hm1
      obtain ⟨ml, hml'⟩ : ∃ ml, ml = (dig m).length := ⟨_, rfl⟩
      rw [← hml'] at Hav hml ⊢
      have hml2 : (dig m).length ≤ 1000000 := Nat.le_trans (dig_len_mono (by rw [Hm.out]; exact Nat.div_le_self _ _)) (by have := Hlx.out; omega)
      have Hml2 := Lib.hid hml2; clear hml2
      have Hml' := Lib.hid hml'; clear hml'
      go_wp2_with fail
      refine (divideWord_fr m 1000000000 _ wr (Hav.out) Hml2.out (by decide) (by decide)).mono ?_
      rintro e w1 ⟨r, rfl, hr, hfr, hb1⟩
      obtain ⟨A2, n2, c2, rfl⟩ := hr.slice_
      have hg32 : m % 1000000000 < 4294967296 := by have := Nat.mod_lt m (show 0 < 1000000000 by decide); omega
      obtain ⟨g, hg⟩ : ∃ g, g = m % 1000000000 := ⟨_, rfl⟩
      rw [← hg] at hg32 ⊢
      have Hg := Lib.hid hg; clear hg
      have hown := Hgr.out.own
      have hown1 : w1.ownsRow w.heap.size 45 1 u3 ds.length (ds.map uw) := own_below hown hb1
      have hb2 := hbel.trans (hb1.mono hbel.size)
      have hsl := own_slice hown
      have hkl := Hgr.out.len
      have hk2 : k ≤ 2000 := groups_few Hgr.out.top Hlt.out
      clear hb1 hbel
      go_wp2_with (at_builtin; refine wpList_append_own _ rfl _ _ 22 rfl w.heap.size 45 i0 (.int .u32 0) 1 4 Tryd.underlying22 hi hz0 hz1 hz2 rfl (by decide) _ _ _ rfl (hown1.alloc _) ⟨w1.heap.size, 0, none⟩ 1 1 [uw g] rfl rfl ?c1 ?c2 ?c3 ?c4 ?c5 ?_)
      case c1 =>
        intro j u hj
        match j, hj with
        | 0, hj => simp at hj; subst hj; simp [Addr.add, uw]
      case c2 => intro u hu; simp at hu; subst hu; rfl
      case c3 => unfold maxLen; omega
      case c4 => omega
      case c5 => have := hb2.size; simp; omega
      intro v' w2 hown' hgrow _
      have hb3 : Below w.heap.size w w2 := (hb2.alloc hb2.size _).grown hgrow (by have := hb2.size; simp; omega) (fun k hk => (hown1.lt k hk).1)
      have hr2 : Wd w2 (.slice A2 n2 c2) (dig (m / 1000000000)) := wd_grown (hr.below (below_alloc _ _)) hgrow (fun a n c e k hk => by have h1 := hfr a n c e; have h2 := (hown.lt k hk).2; omega)
      have hown2 : w2.ownsRow w.heap.size 45 1 v' (ds ++ [g]).length ((ds ++ [g]).map uw) := by
        rw [List.length_append, List.map_append, List.length_singleton, hkl]; exact hown'
      have hsl2 := own_slice hown2
      have Ho := Lib.hid hown2; clear hown2 hown' hgrow hown1 hb2 hown hfr
      go_wp2
      go_roundw
      case rel =>
        refine ⟨k + 1, ds ++ [g], by rw [gdiv_succ, ← Hm.out]; exact hr2, ⟨by simp [hkl], Hgr.out.ok.append (Ok.mk hg32 Ok.nil), Ho.out, ?_, Or.inr (by rw [Nat.add_sub_cancel, ← Hm.out]; exact hm1)⟩, hb3⟩
        intro j hj
        by_cases e : j < k
        · rw [← Hgr.out.at_ j e]
          simp only [List.getD_eq_getElem?_getD]
          rw [List.getElem?_append_left (by rw [hkl]; exact e)]
        · have e' : j = k := by omega
          subst e'
          rw [← Hm.out, ← Hg.out, ← hkl]
          simp [List.getD_eq_getElem?_getD]
      case measure =>
        have := groups_le (n := n) (k := k + 1) (Or.inr (by rw [Nat.add_sub_cancel, ← Hm.out]; exact hm1))
        rw [List.length_append, List.length_singleton] at hsl2
        simp
        omega
end Go.Proofs.YtmlopkkbgpfdnaaDoor
namespace Go.Proofs.YtmlopkkbgpfdnaaDoor
open Go.RowKit

theorem World.size_drewN' (w : World) (k : Nat) : (w.drewN k).heap.size = w.heap.size := rfl

theorem len_add {x y : Int} {k : Nat} (lx : (dig x.natAbs).length ≤ k) (ly : (dig y.natAbs).length ≤ k) : (dig (x + y).natAbs).length ≤ k + 1 := by
  have h1 := lt_of_dig_len lx
  have h2 := lt_of_dig_len ly
  apply dig_len_le
  rw [Nat.pow_succ]
  have : (x + y).natAbs ≤ x.natAbs + y.natAbs := Int.natAbs_add_le x y
  omega
theorem len_mul {x y : Int} {k l : Nat} (lx : (dig x.natAbs).length ≤ k) (ly : (dig y.natAbs).length ≤ l) : (dig (x * y).natAbs).length ≤ k + l := by
  have h1 := lt_of_dig_len lx
  have h2 := lt_of_dig_len ly
  apply dig_len_le
  rw [Int.natAbs_mul, Nat.pow_add]
  exact Nat.mul_lt_mul'' h1 h2

set_option maxHeartbeats 400000 in
set_option maxRecDepth 100000 in
/-- whole.times -/
theorem timesZ_any (x y : Int) (u v : Value) (w : World) (hx : ZV w u x) (hy : ZV w v y) (lx : (dig x.natAbs).length ≤ 1000000) (ly : (dig y.natAbs).length ≤ 1000000) :
    Calls Tryd.prog 35 #[u, v] w (RetZ w (x * y)) := by
  obtain ⟨A, n, c, rfl, hx0, -, -⟩ := hx.open_
  obtain ⟨A', n', c', rfl, hy0, -, -⟩ := hy.open_
  obtain ⟨p, hp⟩ : ∃ p, p = decide (x < 0) := ⟨_, rfl⟩
  obtain ⟨q, hq⟩ : ∃ q, q = decide (y < 0) := ⟨_, rfl⟩
  rw [← hp, ← hq]
  obtain ⟨sg, hsg⟩ : ∃ sg, sg = (p == q) := ⟨_, rfl⟩
  have hsg' : (p == q) = sg := hsg.symm
  have Hp := Lib.hid hp; clear hp
  have Hq := Lib.hid hq; clear hq
  have Hsg := Lib.hid hsg; clear hsg hx hy
  have Hx := Lib.hid hx0; clear hx0
  have Hy := Lib.hid hy0; clear hy0
  go_enter Tryd.func35, Tryd.ntmps35
  go_wp2_with fail
  have hb3 := below3 w (Obj.cells #[.bool p, .slice A n c] 37) (Obj.cells #[.bool q, .slice A' n' c'] 37) (Obj.cells #[.bool false, .slice none 0 0] 37)
  have Hx3 := Lib.hid (Hx.out.below hb3)
  have Hy3 := Lib.hid (Hy.out.below hb3)
  have Hb3 := Lib.hid hb3; clear hb3
  have HR := Lib.hid (RB.a3 w false none 0 0 37 (Obj.cells #[.bool p, .slice A n c] 37) (Obj.cells #[.bool q, .slice A' n' c'] 37))
  go_region_held3 (fun w' => w'.cell? ⟨w.heap.size, 0, none⟩ = some (.bool p) ∧ w'.cell? ⟨w.heap.size, 1, none⟩ = some (.slice A n c) ∧ w'.cell? ⟨w.heap.size + 1, 0, none⟩ = some (.bool q) ∧ w'.cell? ⟨w.heap.size + 1, 1, none⟩ = some (.slice A' n' c'))
    (first | exact ⟨old1 0, old1 1, old2 0, old2 1⟩ | (go_split_ands; exact ⟨(far2 (by omega)).trans (by assumption), (far2 (by omega)).trans (by assumption), (far2 (by omega)).trans (by assumption), (far2 (by omega)).trans (by assumption)⟩) | (go_split_ands; exact ⟨keepAt hb1 (by simp <;> omega) (by assumption), keepAt hb1 (by simp <;> omega) (by assumption), keepAt hb1 (by simp <;> omega) (by assumption), keepAt hb1 (by simp <;> omega) (by assumption)⟩) | (go_split_ands; exact ⟨keepAt hb2 (by omega) (by assumption), keepAt hb2 (by omega) (by assumption), keepAt hb2 (by omega) (by assumption), keepAt hb2 (by omega) (by assumption)⟩))
    (first | (go_at_call 55; refine (asSlice (timesE_any _ _ _ _ _ (by exact Hx3.out) (by exact Hy3.out) lx ly)).mono ?_; rintro e w1 ⟨A5, n5, c5, rfl, hr, hb1⟩; have z1 : w.heap.size + 1 + 1 + 1 ≤ w1.heap.size := (by have h := (undrew hb1).size; simp at h; omega); have hl5 := hr.len_le; have hR1 := HR.out.below (undrew hb1) (by simp <;> omega)) | (go_at_call 54; refine (signed_any (!sg) A5 n5 c5 _ hl5).mono ?_; rintro e w2 ⟨rfl, hb2⟩; have z2 := hb2.size; have hR := hR1.below hb2 (by omega); obtain ⟨a0, A0, n0, c0, k10, k11, k20, k21⟩ := hR.facts))
  have s0 := hR.set0 (!sg && decide (0 < n5)) (.slice A5 n5 c5)
  have s1 := hR.set1 (!sg && decide (0 < n5)) (.slice A5 n5 c5)
  have fin := And.intro ((hr.below hb2).rb hR (.bool (!sg && decide (0 < n5))) (.slice A5 n5 c5)) (below_set2 (g := w.heap.size + 1 + 1) (i := 0) (j := 1) ((Hb3.out.trans ((undrew hb1).mono (by simp <;> omega))).trans (hb2.mono (by omega))) (by omega) (.bool (!sg && decide (0 < n5))) (.slice A5 n5 c5))
  have Fin := Lib.hid fin; clear fin
  have hn5 := hr.len
  have Hn5 := Lib.hid hn5; clear hn5
  go_wp2
  refine bodyPost_ret (v := .agg #[.bool (!sg && decide (0 < n5)), .slice A5 n5 c5]) (by simp [results, Tryd.results35, go_sem, s0, s1]) rfl ⟨_, rfl, ZV.mk ?_ ?_, Fin.out.2⟩
  · rw [Hsg.out, Hp.out, Hq.out, Hn5.out, Bool.eq_iff_iff]
    simp only [Bool.and_eq_true, Bool.not_eq_true', beq_eq_false_iff_ne, ne_eq, decide_eq_decide, decide_eq_true_eq, dig_len_pos]
    rcases Int.lt_trichotomy x 0 with hx | hx | hx <;> rcases Int.lt_trichotomy y 0 with hy | hy | hy
    · have := Int.mul_pos_of_neg_of_neg hx hy; have h2 : 0 < x.natAbs * y.natAbs := Nat.mul_pos (by omega) (by omega); omega
    · subst hy; simp
    · have := Int.mul_neg_of_neg_of_pos hx hy; have h2 : 0 < x.natAbs * y.natAbs := Nat.mul_pos (by omega) (by omega); omega
    · subst hx; simp
    · subst hx; simp
    · subst hx; simp
    · have := Int.mul_neg_of_pos_of_neg hx hy; have h2 : 0 < x.natAbs * y.natAbs := Nat.mul_pos (by omega) (by omega); omega
    · subst hy; simp
    · have := Int.mul_pos hx hy; have h2 : 0 < x.natAbs * y.natAbs := Nat.mul_pos (by omega) (by omega); omega
  · rw [Int.natAbs_mul]; exact Fin.out.1
end Go.Proofs.YtmlopkkbgpfdnaaDoor
namespace Go.Proofs.YtmlopkkbgpfdnaaDoor
open Go.RowKit

theorem drop_len_U32s (l : List Nat) : (U32s l).size = l.length := by simp [U32s]

theorem copy_u32 (dT sT ty : TypeId) (hd : Tryd.prog.underlying dT = some (.slice 45)) (W : World) (g n c b off : Nat) (l : List Nat) (hn : n = l.length)
    (hg : W.heap[g]? = some (.cells (U32s (zeros n)) 45 (0, 0))) (hs : ∀ j, j < l.length → W.cell? ⟨b, off + j, none⟩ = some (.int .u32 (l.getD j 0 : Nat))) :
    (Builtin.copy_ #[dT, sT] ty #[.slice (some ⟨g, 0, none⟩) n n, .slice (some ⟨b, off, none⟩) n c]).run Tryd.prog W = .ok (.int .i64 n) (W.setRow g (U32s l)) := by
  have hsz : (Tryd.prog.info? 45).map (·.size) = some 1 := by kernel_rfl
  have hr := run_copy_row (P := Tryd.prog) W dT sT ty 45 g 0 n n ⟨b, off, none⟩ n c (U32s (zeros n)) 45 (U32s l).toList hd hsz hg (by simp [U32s, hn]) (fun j v hj => by
    have hjl : j < l.length := by
      have := (List.getElem?_eq_some_iff.1 hj).1
      simpa [U32s] using this
    have hv : v = .int .u32 (l.getD j 0 : Nat) := by
      have h2 := U32s_get hjl
      rw [← Array.getElem?_toList, hj] at h2
      exact Option.some.inj h2
    rw [hv]
    have e : (⟨b, off, none⟩ : Addr).add j = ⟨b, off + j, none⟩ := by unfold Addr.add; split <;> simp_all
    rw [e]
    exact hs j hjl) (by simp [U32s, zeros, hn]) (fun v hv => by
    simp [U32s] at hv
    obtain ⟨x, _, rfl⟩ := hv
    rfl)
  rw [hr]
  have e1 : (U32s l).toList.length = n := by simp [U32s, hn]
  have e2 : ((U32s (zeros n)).toList.take 0 ++ (U32s l).toList ++ (U32s (zeros n)).toList.drop (0 + (U32s l).toList.length)).toArray = U32s l := by
    have e3 : (U32s (zeros n)).toList.drop (0 + (U32s l).toList.length) = [] := by
      apply List.drop_of_length_le
      simp [U32s, zeros, hn]
    rw [e3]; simp
  rw [e2, e1]
  rfl

theorem Blk.setRow {W : World} {g : Nat} {l l' : List Nat} (h : Blk W g l) : Blk (W.setRow g (U32s l')) g l' := by
  unfold Blk at h ⊢
  exact setRow_heap W g _ _ 45 (0, 0) h
theorem RB.alloc {W : World} {g : Nat} (r : RB W g) (o : Obj) : RB (W.alloc o) g := by
  have hl := r.lt
  obtain ⟨a, A, n, c, t, hh⟩ := r
  exact ⟨a, A, n, c, t, by rw [Below.heap_alloc _ _ _ hl]; exact hh⟩
theorem RB.setRow {W : World} {g h : Nat} (r : RB W g) (hne : g ≠ h) (cs : Array Value) : RB (W.setRow h cs) g := by
  obtain ⟨a, A, n, c, t, hh⟩ := r
  exact ⟨a, A, n, c, t, by rw [setRow_other W h g cs hne]; exact hh⟩
theorem cell_setRow {W : World} {g h i : Nat} (hne : g ≠ h) (cs : Array Value) : (W.setRow h cs).cell? ⟨g, i, none⟩ = W.cell? ⟨g, i, none⟩ :=
  World.cell?_of_block (w := W) (setRow_other W h g cs hne)


set_option maxRecDepth 100000 in
theorem intOf_zero (a : Value) (w : World) (ha : ZV w a 0) : Calls Tryd.prog 19 #[a] w (RetZ w 0) := by
  obtain ⟨A, n, c, rfl, -, -, -⟩ := ha.open_
  obtain ⟨p, hp⟩ : ∃ p, p = decide ((0 : Int) < 0) := ⟨_, rfl⟩
  rw [← hp] at ha ⊢
  clear hp
  have Ha := Lib.hid ha; clear ha
  go_enter Tryd.func19, Tryd.ntmps19
  go_wp2_with fail
  have hb2 := below2 w (Obj.cells #[.bool p, .slice A n c] 37) (Obj.cells #[.bool false, .slice none 0 0] 24)
  refine (signZ_any 0 _ _ (Ha.out.below hb2)).mono ?_
  rintro e w1 ⟨rfl, hb1⟩
  rw [Int.sign_zero]
  have hR := (RB.b2 w false none 0 0 24 (Obj.cells #[.bool p, .slice A n c] 37)).below hb1 (by simp)
  obtain ⟨a0, A0, n0, c0, k10, k11, k20, k21⟩ := hR.facts
  have s0 := hR.set0 false (.slice none 0 0)
  have s1 := hR.set1 false (.slice none 0 0)
  have hb := below_set2 (g := w.heap.size + 1) (i := 0) (j := 1) (hb2.trans (hb1.mono (by simp; omega))) (by omega) (.bool false) (.slice none 0 0)
  have Hb := Lib.hid hb; clear hb hb1 hb2 hR
  go_wp2
  exact bodyPost_ret (v := .agg #[.bool false, .slice none 0 0]) (by simp [results, Tryd.results19, go_sem, s0, s1]) rfl ⟨_, rfl, ZV.mk (by simp) (by rw [Int.natAbs_zero, dig_zero]; exact Wd.nil_ _), Hb.out⟩

set_option maxRecDepth 100000 in
theorem intOf_ne (z : Int) (a : Value) (w : World) (ha : ZV w a z) (hz : z ≠ 0) (hlen : (dig z.natAbs).length ≤ 1000000) : Calls Tryd.prog 19 #[a] w (RetZ w z) := by
  obtain ⟨A, n, c, rfl, hv, hn, -⟩ := ha.open_
  have hnp : 0 < n := by rw [hn]; exact dig_len_pos.2 (by omega)
  obtain ⟨A', c', he, -, -, hok, hcells⟩ := hv
  injection he with e1 e2 e3
  subst e1 e3
  obtain ⟨b, off, rfl, hbl, hc⟩ := hcells (by rw [← e2]; exact hnp)
  clear e2
  obtain ⟨p, hp⟩ : ∃ p, p = decide (z < 0) := ⟨_, rfl⟩
  rw [← hp] at ha ⊢
  obtain ⟨l, hl⟩ : ∃ l, l = dig z.natAbs := ⟨_, rfl⟩
  rw [← hl] at hn hok hc hlen
  have hn6 : n ≤ 1000000 := by omega
  have Ha := Lib.hid ha; clear ha
  have Hc := Lib.hid hc; clear hc
  have Hp := Lib.hid hp; clear hp
  have Hn := Lib.hid hn; clear hn hlen hcells
  have Hl := Lib.hid hl; clear hl
  go_enter Tryd.func19, Tryd.ntmps19
  go_wp2_with fail
  have hb2 := below2 w (Obj.cells #[.bool p, .slice (some ⟨b, off, none⟩) n c] 37) (Obj.cells #[.bool false, .slice none 0 0] 24)
  have o10 := RB.b1 w p (some ⟨b, off, none⟩) n c 37 (Obj.cells #[.bool false, .slice none 0 0] 24)
  refine (signZ_any z _ _ (Ha.out.below hb2)).mono ?_
  rintro e w1 ⟨rfl, hb1⟩
  obtain ⟨sg, hsg⟩ : ∃ sg, sg = z.sign := ⟨_, rfl⟩
  rw [← hsg]
  have hsg0 : (sg == 0) = false := by rw [hsg]; simpa using hz
  clear hsg
  have z1 : w.heap.size + 1 + 1 ≤ w1.heap.size := by have := hb1.size; simpa using this
  have q0 : w1.cell? ⟨w.heap.size, 0, none⟩ = some (.bool p) := keepAt hb1 (by simp <;> omega) (by rw [World.cell?_alloc_past _ _ _ (by simp), World.cell?_alloc_new]; rfl)
  have q1 : w1.cell? ⟨w.heap.size, 1, none⟩ = some (.slice (some ⟨b, off, none⟩) n c) := keepAt hb1 (by simp <;> omega) (by rw [World.cell?_alloc_past _ _ _ (by simp), World.cell?_alloc_new]; rfl)
  have hR1 := (RB.b2 w false none 0 0 24 (Obj.cells #[.bool p, .slice (some ⟨b, off, none⟩) n c] 37)).below hb1 (by simp)
  have hb01 := hb2.trans (hb1.mono (by simp; omega))
  have hmk : ∀ w, (Instr.makeSlice 22 (.int .i64 (n : Int)) (.int .i64 (n : Int))).run Tryd.prog w = .ok (.slice (some ⟨w.heap.size, 0, none⟩) n n) (w.alloc (.cells (U32s (zeros n)) 45)) := fun w => make_u32 22 Tryd.underlying22 n (by omega) w
  have hbk : Blk (w1.alloc (.cells (U32s (zeros n)) 45)) w1.heap.size (zeros n) := heap_alloc_new _ _
  have hb02 : Below w.heap.size w (w1.alloc (.cells (U32s (zeros n)) 45)) := hb01.alloc hb01.size _
  have hcp : ∀ ty, (Builtin.copy_ #[22, 35] ty #[.slice (some ⟨w1.heap.size, 0, none⟩) n n, .slice (some ⟨b, off, none⟩) n c]).run Tryd.prog (w1.alloc (.cells (U32s (zeros n)) 45)) = .ok (.int .i64 n) ((w1.alloc (.cells (U32s (zeros n)) 45)).setRow w1.heap.size (U32s l)) :=
    fun ty => copy_u32 22 35 ty Tryd.underlying22 _ _ n c b off l Hn.out hbk (fun j hj => (hb02.cell (p := ⟨b, off + j, none⟩) hbl).trans (Hc.out j hj))
  have hR2 := (hR1.alloc (.cells (U32s (zeros n)) 45)).setRow (by omega) (U32s l) (h := w1.heap.size)
  have t0 : ((w1.alloc (.cells (U32s (zeros n)) 45)).setRow w1.heap.size (U32s l)).cell? ⟨w.heap.size, 0, none⟩ = some (.bool p) := by rw [cell_setRow (by omega), World.cell?_alloc_past _ _ _ (by omega)]; exact q0
  have t1 : ((w1.alloc (.cells (U32s (zeros n)) 45)).setRow w1.heap.size (U32s l)).cell? ⟨w.heap.size, 1, none⟩ = some (.slice (some ⟨b, off, none⟩) n c) := by rw [cell_setRow (by omega), World.cell?_alloc_past _ _ _ (by omega)]; exact q1
  have u0 : (w1.alloc (.cells (U32s (zeros n)) 45)).cell? ⟨w.heap.size, 0, none⟩ = some (.bool p) := by rw [World.cell?_alloc_past _ _ _ (by omega)]; exact q0
  have u1 : (w1.alloc (.cells (U32s (zeros n)) 45)).cell? ⟨w.heap.size, 1, none⟩ = some (.slice (some ⟨b, off, none⟩) n c) := by rw [World.cell?_alloc_past _ _ _ (by omega)]; exact q1
  have hnl := Hn.out
  have hw := (hbk.setRow (l' := l)).wd hok (by omega) n (by omega) (by omega)
  rw [← hnl] at hw
  have hb03 : Below w.heap.size w ((w1.alloc (.cells (U32s (zeros n)) 45)).setRow w1.heap.size (U32s l)) := below_setRow hb02 hb01.size _
  obtain ⟨a0, A0, n0, c0, k10, k11, k20, k21⟩ := hR2.facts
  have s0 := hR2.set0 p (.slice (some ⟨w1.heap.size, 0, none⟩) n n)
  have s1 := hR2.set1 p (.slice (some ⟨w1.heap.size, 0, none⟩) n n)
  have fin := And.intro (hw.rb hR2 (.bool p) (.slice (some ⟨w1.heap.size, 0, none⟩) n n)) (below_set2 (g := w.heap.size + 1) (i := 0) (j := 1) hb03 (by omega) (.bool p) (.slice (some ⟨w1.heap.size, 0, none⟩) n n))
  have Fin := Lib.hid fin
  clear fin hw hb03 hR2 hbk hb02 hb01 hR1 hb1 hb2 o10 hnl
  go_wp2
  refine bodyPost_ret (v := .agg #[.bool p, .slice (some ⟨w1.heap.size, 0, none⟩) n n]) (by simp [results, Tryd.results19, go_sem, s0, s1]) rfl ⟨_, rfl, ZV.mk Hp.out ?_, Fin.out.2⟩
  rw [← Hl.out]
  exact Fin.out.1

/-- exact.intOf -/
theorem intOf_any (z : Int) (a : Value) (w : World) (ha : ZV w a z) (hlen : (dig z.natAbs).length ≤ 1000000) : Calls Tryd.prog 19 #[a] w (RetZ w z) := by
  by_cases hz : z = 0
  · subst hz; exact intOf_zero a w ha
  · exact intOf_ne z a w ha hz hlen

/-- exact.fits -/
theorem fits_any (z : Int) (a : Value) (w : World) (ha : ZV w a z) : Calls Tryd.prog 38 #[a] w fun e w' => e = .returned (.bool (decide ((dig z.natAbs).length ≤ 256))) ∧ Below w.heap.size w w' := by
  obtain ⟨A, n, c, rfl, -, hn, -⟩ := ha.open_
  rw [← hn]
  clear ha hn
  have hb := below_alloc w (Obj.cells #[.bool (decide (z < 0)), .slice A n c] 37)
  obtain ⟨p, hp⟩ : ∃ p, p = decide (z < 0) := ⟨_, rfl⟩
  rw [← hp] at hb ⊢
  have Hb := Lib.hid hb; clear hb hp
  go_enter Tryd.func38, Tryd.ntmps38
  go_wp2
  go_ret
  exact ⟨by simp; omega, Hb.out⟩

set_option maxRecDepth 100000 in
/-- exact.fitInt -/
theorem fitInt_yes (z : Int) (a : Value) (w : World) (ha : ZV w a z) (hlen : (dig z.natAbs).length ≤ 256) :
    Calls Tryd.prog 53 #[a] w fun e w' => ∃ b A n c, e = .returned (.tuple #[.agg #[.bool b, .slice A n c], .int .i64 0]) ∧ ZV w' (.agg #[.bool b, .slice A n c]) z ∧ Below w.heap.size w w' := by
  obtain ⟨A, n, c, rfl, -, -, -⟩ := ha.open_
  obtain ⟨p, hp⟩ : ∃ p, p = decide (z < 0) := ⟨_, rfl⟩
  rw [← hp] at ha ⊢
  clear hp
  have hd : decide ((dig z.natAbs).length ≤ 256) = true := by simpa using hlen
  have Ha := Lib.hid ha; clear ha
  have Hd := Lib.hid hd; clear hd
  go_enter Tryd.func53, Tryd.ntmps53
  go_wp2_with fail
  have hb2 := below2 w (Obj.cells #[.bool p, .slice A n c] 37) (Obj.cells #[.bool false, .slice none 0 0] 24)
  have hR2 := RB.b2 w false none 0 0 24 (Obj.cells #[.bool p, .slice A n c] 37)
  refine (fits_any z _ _ (Ha.out.below hb2)).mono ?_
  rintro e w1 ⟨rfl, hb1⟩
  rw [Hd.out]
  have z1 : w.heap.size + 1 + 1 ≤ w1.heap.size := by have := hb1.size; simpa using this
  have q0 : w1.cell? ⟨w.heap.size, 0, none⟩ = some (.bool p) := keepAt hb1 (by simp <;> omega) (by rw [World.cell?_alloc_past _ _ _ (by simp), World.cell?_alloc_new]; rfl)
  have q1 : w1.cell? ⟨w.heap.size, 1, none⟩ = some (.slice A n c) := keepAt hb1 (by simp <;> omega) (by rw [World.cell?_alloc_past _ _ _ (by simp), World.cell?_alloc_new]; rfl)
  have hR1 := Lib.hid (hR2.below hb1 (by simp))
  have ha1 := Lib.hid (Ha.out.below (hb2.trans (hb1.mono (by simp; omega))))
  have hb01 := Lib.hid (hb2.trans (hb1.mono (by simp; omega)))
  clear hb1 hb2 hR2
  go_wp2_with fail
  refine (asAgg (intOf_any z _ _ ha1.out (by omega))).mono ?_
  rintro e w2 ⟨b, A3, n3, c3, rfl, hr, hb3⟩
  have hR := hR1.out.below hb3 (by omega)
  obtain ⟨a0, A0, n0, c0, k10, k11, k20, k21⟩ := hR.facts
  have s0 := hR.set0 b (.slice A3 n3 c3)
  have s1 := hR.set1 b (.slice A3 n3 c3)
  have fin := And.intro (hr.rb hR (.bool b) (.slice A3 n3 c3)) (below_set2 (g := w.heap.size + 1) (i := 0) (j := 1) (hb01.out.trans (hb3.mono hb01.out.size)) (by omega) (.bool b) (.slice A3 n3 c3))
  have Fin := Lib.hid fin; clear fin hb3 hR
  go_wp2
  exact bodyPost_ret (v := .tuple #[.agg #[.bool b, .slice A3 n3 c3], .int .i64 0]) (by simp [results, Tryd.results53, go_sem, s0, s1]) rfl ⟨b, A3, n3, c3, rfl, Fin.out.1, Fin.out.2⟩

set_option maxRecDepth 100000 in
theorem fitInt_no (z : Int) (a : Value) (w : World) (ha : ZV w a z) (hlen : 256 < (dig z.natAbs).length) :
    Calls Tryd.prog 53 #[a] w fun e w' => e = .returned (.tuple #[.agg #[.bool false, .slice none 0 0], .int .i64 5]) ∧ Below w.heap.size w w' := by
  obtain ⟨A, n, c, rfl, -, -, -⟩ := ha.open_
  obtain ⟨p, hp⟩ : ∃ p, p = decide (z < 0) := ⟨_, rfl⟩
  rw [← hp] at ha ⊢
  clear hp
  have hd : decide ((dig z.natAbs).length ≤ 256) = false := by simp; omega
  have Ha := Lib.hid ha; clear ha
  have Hd := Lib.hid hd; clear hd
  go_enter Tryd.func53, Tryd.ntmps53
  go_wp2_with fail
  have hb2 := below2 w (Obj.cells #[.bool p, .slice A n c] 37) (Obj.cells #[.bool false, .slice none 0 0] 24)
  have hR2 := RB.b2 w false none 0 0 24 (Obj.cells #[.bool p, .slice A n c] 37)
  refine (fits_any z _ _ (Ha.out.below hb2)).mono ?_
  rintro e w1 ⟨rfl, hb1⟩
  rw [Hd.out]
  have hR := hR2.below hb1 (by simp)
  obtain ⟨a0, A0, n0, c0, k10, k11, k20, k21⟩ := hR.facts
  have s0 := hR.set0 false (.slice none 0 0)
  have s1 := hR.set1 false (.slice none 0 0)
  have fin := below_set2 (g := w.heap.size + 1) (i := 0) (j := 1) (hb2.trans (hb1.mono (by simp; omega))) (by omega) (.bool false) (.slice none 0 0)
  have Fin := Lib.hid fin; clear fin hb1 hb2 hR hR2
  go_wp2
  exact bodyPost_ret (v := .tuple #[.agg #[.bool false, .slice none 0 0], .int .i64 5]) (by simp [results, Tryd.results53, go_sem, s0, s1]) rfl ⟨rfl, Fin.out⟩
end Go.Proofs.YtmlopkkbgpfdnaaDoor
namespace Go.Proofs.YtmlopkkbgpfdnaaDoor
open Go.RowKit

/-- is a struct of a sign and words the only form of its number? -/
def vld (neg : Bool) (l : List Nat) : Bool := if l.length = 0 then !neg else (decide (l.length ≤ 256) && !decide (l.getD (l.length - 1) 0 = 0))

/-- the number that it stands for -/
def numOf (neg : Bool) (l : List Nat) : Int := if neg then -(val l : Int) else (val l : Int)

theorem vld_len {neg : Bool} {l : List Nat} (h : vld neg l = true) : l.length ≤ 256 := by
  unfold vld at h
  split at h
  · omega
  · simp at h; exact h.1
theorem vld_norm {neg : Bool} {l : List Nat} (h : vld neg l = true) : Norm l := by
  unfold vld at h
  split at h
  · rename_i h0
    rw [List.eq_nil_of_length_eq_zero h0]; exact Norm.nil
  · rename_i h0
    simp at h
    unfold Norm
    rw [List.getLast?_eq_getElem?]
    have hl : l.length - 1 < l.length := by omega
    rw [List.getElem?_eq_getElem hl]
    have h2 := h.2
    rw [List.getElem?_eq_getElem hl] at h2
    simpa using h2
theorem vld_dig {neg : Bool} {l : List Nat} (ho : Ok l) (h : vld neg l = true) : dig (numOf neg l).natAbs = l := by
  have : (numOf neg l).natAbs = val l := by unfold numOf; split <;> omega
  rw [this]
  exact dig_val ho (vld_norm h)
theorem vld_neg {neg : Bool} {l : List Nat} (ho : Ok l) (h : vld neg l = true) : neg = decide (numOf neg l < 0) := by
  unfold numOf
  cases neg
  · simp
  · have hne : l.length ≠ 0 := by
      intro h0; unfold vld at h; rw [if_pos h0] at h; simp at h
    have hp := val_pos_of_norm (vld_norm h) (by intro e; rw [e] at hne; simp at hne)
    simp; omega
theorem vld_zv {w : World} {neg : Bool} {v : Value} {l : List Nat} (hv : Wd w v l) (h : vld neg l = true) : ZV w (.agg #[.bool neg, v]) (numOf neg l) :=
  ZV.mk (vld_neg hv.ok h) (by rw [vld_dig hv.ok h]; exact hv)

theorem below1 (w : World) (o : Obj) : Below w.heap.size w (w.alloc o) := below_alloc w o

set_option maxRecDepth 100000 in
/-- exact.Valid -/
theorem validE_any (neg : Bool) (A : Option Addr) (n c : Nat) (l : List Nat) (w : World) (hv : Wd w (.slice A n c) l) :
    Calls Tryd.prog 28 #[.agg #[.bool neg, .slice A n c]] w fun e w' => e = .returned (.bool (vld neg l)) ∧ Below w.heap.size w w' := by
  have hb := below1 w (Obj.cells #[.bool neg, .slice A n c] 24)
  have Hb := Lib.hid hb; clear hb
  have hn := hv.len
  have hl := hv.len_le
  obtain ⟨A', c', he, -, -, hok, hcells⟩ := hv
  injection he with e1 e2 e3
  subst e1 e3
  rw [← e2] at hcells
  clear e2
  by_cases h0 : n = 0
  · subst h0
    have hr : vld neg l = !neg := by unfold vld; rw [if_pos hn.symm]
    have Hr := Lib.hid hr; clear hr hcells hn
    go_enter Tryd.func28, Tryd.ntmps28
    go_wp2
    go_ret
    exact ⟨by rw [Hr.out]; rfl, Hb.out⟩
  · obtain ⟨b, off, rfl, hbl, hc⟩ := hcells (by omega)
    have h1 := hc (n - 1) (by omega)
    obtain ⟨x, hx⟩ : ∃ x, x = l.getD (n - 1) 0 := ⟨_, rfl⟩
    rw [← hx] at h1
    have h1' : (w.alloc (Obj.cells #[.bool neg, .slice (some ⟨b, off, none⟩) n c] 24)).cell? ⟨b, off + (n - 1), none⟩ = some (.int .u32 x) := by rw [World.cell?_alloc_past _ _ _ hbl]; exact h1
    have hr : vld neg l = (decide (n ≤ 256) && !decide (x = 0)) := by unfold vld; rw [if_neg (by omega), ← hn, ← hx]
    have Hr := Lib.hid hr; clear hr hcells hc hx hn
    by_cases h2 : n ≤ 256
    · have h2b : decide ((n : Int) ≤ 256) = true := by simp; omega
      by_cases h3 : x = 0
      · subst h3
        go_enter Tryd.func28, Tryd.ntmps28
        go_wp2
        go_ret
        exact ⟨by rw [Hr.out]; simp [h2], Hb.out⟩
      · have h4 : ((x : Int) != 0) = true := by simp; omega
        go_enter Tryd.func28, Tryd.ntmps28
        go_wp2
        go_ret
        exact ⟨by rw [Hr.out]; simp [h2, h3], Hb.out⟩
    · have h4 : decide ((n : Int) ≤ 256) = false := by simp; omega
      go_enter Tryd.func28, Tryd.ntmps28
      go_wp2
      go_ret
      exact ⟨by rw [Hr.out]; simp [h2], Hb.out⟩

set_option maxRecDepth 100000 in
/-- exact.allValid -/
theorem allValid_any (m cap g : Nat) (N : Nat → Bool) (AA : Nat → Option Addr) (nn cc : Nat → Nat) (L : Nat → List Nat) (w : World) (hm : m ≤ 1000) (hg : g < w.heap.size)
    (h0 : ∀ i, i < m → w.cell? ⟨g, i * 2, none⟩ = some (.bool (N i))) (h1 : ∀ i, i < m → w.cell? ⟨g, i * 2 + 1, none⟩ = some (.slice (AA i) (nn i) (cc i)))
    (hL : ∀ i, i < m → Wd w (.slice (AA i) (nn i) (cc i)) (L i)) :
    Calls Tryd.prog 11 #[.slice (some ⟨g, 0, none⟩) m cap] w fun e w' => e = .returned (.bool ((List.range m).all fun i => vld (N i) (L i))) ∧ Below w.heap.size w w' := by
  have H0 := Lib.hid h0; clear h0
  have H1 := Lib.hid h1; clear h1
  have HL := Lib.hid hL; clear hL
  go_enter Tryd.func11, Tryd.ntmps11
  go_wp2_with fail
  go_loopw [7] (fun i wr => ∃ k : Nat, i = .int .i64 k ∧ k ≤ m ∧ Below w.heap.size w wr ∧ ∀ j, j < k → vld (N j) (L j) = true) (fun i _ => m - (intOf i).toNat)
  case atStart => exact ⟨0, rfl, Nat.zero_le _, Below.refl _ _, fun j hj => by omega⟩
  case round =>
    obtain ⟨k, rfl, hk, hbel, hall⟩ := hrel
    have HA := Lib.hid hall; clear hall
    by_cases hlt : k < m
    · have a0 := (hbel.cell (p := ⟨g, k * 2, none⟩) hg).trans (H0.out k hlt)
      have a1 := (hbel.cell (p := ⟨g, k * 2 + 1, none⟩) hg).trans (H1.out k hlt)
      have hl := (HL.out k hlt).below hbel
      obtain ⟨p, hp⟩ : ∃ p, p = N k := ⟨_, rfl⟩
      obtain ⟨A, hA⟩ : ∃ A, A = AA k := ⟨_, rfl⟩
      obtain ⟨n, hn⟩ : ∃ n, n = nn k := ⟨_, rfl⟩
      obtain ⟨c, hc⟩ : ∃ c, c = cc k := ⟨_, rfl⟩
      rw [← hA, ← hn, ← hc] at a1 hl
      rw [← hp] at a0
      clear hA hn hc
      have Hp := Lib.hid hp; clear hp
      have Hl := Lib.hid hl; clear hl
      go_wp2_with fail
      have hb2 := below1 wr (Obj.cells #[.bool p, .slice A n c] 24)
      refine (validE_any p A n c (L k) _ (Hl.out.below hb2)).mono ?_
      rintro e w2 ⟨rfl, hb3⟩
      have hb4 := hbel.trans ((hb2.trans (hb3.mono (by simp))).mono hbel.size)
      clear hb2 hb3
      by_cases hvd : vld p (L k) = true
      · rw [hvd]
        have Hvd := Lib.hid hvd; clear hvd
        go_wp2
        go_roundw
        case rel =>
          refine ⟨k + 1, by go_num, by omega, hb4, fun j hj => ?_⟩
          by_cases e : j = k
          · rw [e, ← Hp.out]; exact Hvd.out
          · exact HA.out j (by omega)
        case measure => simp [intOf]; omega
      · have hvf : vld p (L k) = false := by simpa using hvd
        have hr : ((List.range m).all fun i => vld (N i) (L i)) = false := by
          rw [List.all_eq_false]
          exact ⟨k, List.mem_range.2 hlt, by rw [← Hp.out]; exact hvd⟩
        have Hr := Lib.hid hr; clear hr hvd
        rw [hvf]
        clear hvf
        go_wp2
        go_ret
        exact ⟨by rw [Hr.out]; rfl, hb4⟩
    · have hr : ((List.range m).all fun i => vld (N i) (L i)) = true := by
        rw [List.all_eq_true]
        intro i hi
        exact HA.out i (by have := List.mem_range.1 hi; omega)
      have Hr := Lib.hid hr; clear hr
      go_wp2
      go_ret
      exact ⟨by rw [Hr.out]; rfl, hbel⟩
end Go.Proofs.YtmlopkkbgpfdnaaDoor
namespace Go.Proofs.YtmlopkkbgpfdnaaDoor
open Go.RowKit

/-- two Ints side by side, as the slice of a variadic call -/
theorem allValid_two (p q : Bool) (A A' : Option Addr) (n c n' c' : Nat) (l l' : List Nat) (w W : World) (g : Nat) (hW : W.heap[g]? = some (.cells #[.bool p, .slice A n c, .bool q, .slice A' n' c'] 24 (0, 0)))
    (hx : Wd W (.slice A n c) l) (hy : Wd W (.slice A' n' c') l') :
    Calls Tryd.prog 11 #[.slice (some ⟨g, 0, none⟩) 2 2] W fun e w' => e = .returned (.bool (vld p l && vld q l')) ∧ Below W.heap.size W w' := by
  have hg : g < W.heap.size := (Array.getElem?_eq_some_iff.1 hW).1
  have h := allValid_any 2 2 g (fun i => if i = 0 then p else q) (fun i => if i = 0 then A else A') (fun i => if i = 0 then n else n') (fun i => if i = 0 then c else c') (fun i => if i = 0 then l else l') W (by omega) hg
    (fun i hi => by
      rw [cell_of_row W g _ _ 24 (0, 0) hW]
      rcases (by omega : i = 0 ∨ i = 1) with rfl | rfl <;> rfl)
    (fun i hi => by
      rw [cell_of_row W g _ _ 24 (0, 0) hW]
      rcases (by omega : i = 0 ∨ i = 1) with rfl | rfl <;> rfl)
    (fun i hi => by
      rcases (by omega : i = 0 ∨ i = 1) with rfl | rfl
      · exact hx
      · exact hy)
  refine h.mono ?_
  rintro e w' ⟨rfl, hb⟩
  exact ⟨by simp [List.range, List.range.loop], hb⟩

theorem allValid_one (p : Bool) (A : Option Addr) (n c : Nat) (l : List Nat) (W : World) (g : Nat) (hW : W.heap[g]? = some (.cells #[.bool p, .slice A n c] 24 (0, 0)))
    (hx : Wd W (.slice A n c) l) :
    Calls Tryd.prog 11 #[.slice (some ⟨g, 0, none⟩) 1 1] W fun e w' => e = .returned (.bool (vld p l)) ∧ Below W.heap.size W w' := by
  have hg : g < W.heap.size := (Array.getElem?_eq_some_iff.1 hW).1
  have h := allValid_any 1 1 g (fun _ => p) (fun _ => A) (fun _ => n) (fun _ => c) (fun _ => l) W (by omega) hg
    (fun i hi => by
      rw [cell_of_row W g _ _ 24 (0, 0) hW]
      obtain rfl : i = 0 := by omega
      rfl)
    (fun i hi => by
      rw [cell_of_row W g _ _ 24 (0, 0) hW]
      obtain rfl : i = 0 := by omega
      rfl)
    (fun i hi => hx)
  refine h.mono ?_
  rintro e w' ⟨rfl, hb⟩
  exact ⟨by simp [List.range, List.range.loop], hb⟩

theorem below4 (w : World) (o1 o2 o3 o4 : Obj) : Below w.heap.size w ((((w.alloc o1).alloc o2).alloc o3).alloc o4) := (below3 w o1 o2 o3).alloc (by simp; omega) o4

end Go.Proofs.YtmlopkkbgpfdnaaDoor
namespace Go.Proofs.YtmlopkkbgpfdnaaDoor
open Go.RowKit

theorem heap2 (w : World) (o o' : Obj) : ((w.alloc o).alloc o').heap[w.heap.size + 1]? = some o' := by
  have h := heap_alloc_new (w.alloc o) o'
  rwa [show (w.alloc o).heap.size = w.heap.size + 1 by simp] at h
theorem cell_heap2 (w : World) (o : Obj) (cs : Array Value) (t : TypeId) (i : Nat) (v : Value) (h : cs[i]? = some v) : ((w.alloc (.cells cs t)).alloc o).cell? ⟨w.heap.size, i, none⟩ = some v := by
  have hb := below_alloc (w.alloc (.cells cs t)) o
  refine (hb.cell (p := ⟨w.heap.size, i, none⟩) (by simp)).trans ?_
  rw [World.cell?_alloc_new]; exact h
theorem str_append (a b : List UInt8) : (⟨a.toArray⟩ : ByteArray) ++ ⟨b.toArray⟩ = ⟨(a ++ b).toArray⟩ := by
  apply ByteArray.ext
  simp

/-- the decimal text of a whole number -/
def txt (z : Int) : List UInt8 := if z < 0 then 45 :: dec z.natAbs else dec z.natAbs

set_option maxHeartbeats 400000 in
set_option maxRecDepth 100000 in
theorem zText_any (z : Int) (a : Value) (w : World) (ha : ZV w a z) (hlen : (dig z.natAbs).length ≤ 1000) (htab : Tab w) :
    Calls Tryd.prog 13 #[a] w fun e w' => e = .returned (.string ⟨(txt z).toArray⟩) ∧ Below w.heap.size w w' := by
  obtain ⟨A, n, c, rfl, hv, -, -⟩ := ha.open_
  have Hv := Lib.hid hv; clear hv ha
  have Htab := Lib.hid htab; clear htab
  by_cases hz : z < 0
  · have ht : txt z = 45 :: dec z.natAbs := by unfold txt; rw [if_pos hz]
    have hd : decide (z < 0) = true := by simp [hz]
    rw [ht, hd]
    go_enter Tryd.func13, Tryd.ntmps13
    go_wp2_with fail
    have hb0 := below_alloc w (Obj.cells #[.bool true, .slice A n c] 37)
    refine (natText_any z.natAbs _ _ (Hv.out.below hb0) hlen (tab_below Htab.out hb0)).mono ?_
    rintro e w1 ⟨rfl, hb1⟩
    have hdl : 1 + (dec z.natAbs).length ≤ 9223372036854775807 := by have := dec_len_words (lt_of_dig_len hlen) (by decide); omega
    have hap := str_append [45] (dec z.natAbs)
    have Hap := Lib.hid hap; clear hap
    go_wp2
    go_ret
    exact ⟨by rw [Hap.out]; rfl, hb0.trans (hb1.mono hb0.size)⟩
  · have ht : txt z = dec z.natAbs := by unfold txt; rw [if_neg hz]
    have hd : decide (z < 0) = false := by simp [hz]
    rw [ht, hd]
    go_enter Tryd.func13, Tryd.ntmps13
    go_wp2_with fail
    have hb0 := below_alloc w (Obj.cells #[.bool false, .slice A n c] 37)
    refine (natText_any z.natAbs _ _ (Hv.out.below hb0) hlen (tab_below Htab.out hb0)).mono ?_
    rintro e w1 ⟨rfl, hb1⟩
    go_wp2
    go_ret
    exact ⟨rfl, hb0.trans (hb1.mono hb0.size)⟩

set_option maxHeartbeats 400000 in
set_option maxRecDepth 100000 in
theorem print_no (p : Bool) (A : Option Addr) (n c : Nat) (l : List Nat) (w : World) (hx : Wd w (.slice A n c) l) (h : vld p l = false) :
    Calls Tryd.prog 5 #[.agg #[.bool p, .slice A n c]] w fun e w' => e = .returned (.tuple #[.string ⟨#[]⟩, .int .i64 2]) ∧ Below w.heap.size w w' := by
  have Hx := Lib.hid hx; clear hx
  have H := Lib.hid h; clear h
  go_enter Tryd.func5, Tryd.ntmps5
  go_wp2_with fail
  have hb0 := (below_alloc w (Obj.cells #[.bool p, .slice A n c] 24))
  have hb1 := hb0.alloc (o := Obj.cells #[.bool p, .slice A n c] 24) hb0.size
  refine (allValid_one p A n c l _ _ (heap2 _ _ _) (Hx.out.below hb1)).mono ?_
  rintro e w1 ⟨rfl, hb2⟩
  rw [H.out]
  go_wp2
  go_ret2
  exact ⟨rfl, hb1.trans (hb2.mono hb1.size)⟩

set_option maxHeartbeats 400000 in
set_option maxRecDepth 100000 in
theorem print_yes (p : Bool) (A : Option Addr) (n c : Nat) (l : List Nat) (w : World) (hx : Wd w (.slice A n c) l) (h : vld p l = true) (htab : Tab w) :
    Calls Tryd.prog 5 #[.agg #[.bool p, .slice A n c]] w fun e w' => e = .returned (.tuple #[.string ⟨(txt (numOf p l)).toArray⟩, .int .i64 0]) ∧ Below w.heap.size w w' := by
  have hz := vld_zv hx h
  have hlen : (dig (numOf p l).natAbs).length ≤ 1000 := by rw [vld_dig hx.ok h]; have := vld_len h; omega
  obtain ⟨z, hze⟩ : ∃ z, z = numOf p l := ⟨_, rfl⟩
  rw [← hze] at hz hlen ⊢
  have Hx := Lib.hid hx; clear hx
  have Hz := Lib.hid hz; clear hz
  have Hlen := Lib.hid hlen; clear hlen
  have Hze := Lib.hid hze; clear hze
  have Htab := Lib.hid htab; clear htab
  have H := Lib.hid h; clear h
  go_enter Tryd.func5, Tryd.ntmps5
  go_wp2_with fail
  have hb0 := (below_alloc w (Obj.cells #[.bool p, .slice A n c] 24))
  have hb1 := hb0.alloc (o := Obj.cells #[.bool p, .slice A n c] 24) hb0.size
  refine (allValid_one p A n c l _ _ (heap2 _ _ _) (Hx.out.below hb1)).mono ?_
  rintro e w1 ⟨rfl, hb2⟩
  rw [H.out]
  have hb3 := hb1.trans (hb2.mono hb1.size)
  have q0 := keepAt hb2 (by simp; omega) (cell_heap2 w (Obj.cells #[.bool p, .slice A n c] 24) #[.bool p, .slice A n c] 24 0 (.bool p) rfl)
  have q1 := keepAt hb2 (by simp; omega) (cell_heap2 w (Obj.cells #[.bool p, .slice A n c] 24) #[.bool p, .slice A n c] 24 1 (.slice A n c) rfl)
  have Hb3 := Lib.hid hb3
  clear hb0 hb1 hb2
  go_wp2_with fail
  refine (wholeOf_any p A n c _).mono ?_
  rintro e w2 ⟨rfl, hb4⟩
  have hb5 := Hb3.out.trans (hb4.mono Hb3.out.size)
  go_wp2_with fail
  refine (zText_any z _ _ (Hz.out.below hb5) Hlen.out (tab_below Htab.out hb5)).mono ?_
  rintro e w3 ⟨rfl, hb6⟩
  go_wp2
  go_ret2
  exact ⟨rfl, hb5.trans (hb6.mono hb5.size)⟩
end Go.Proofs.YtmlopkkbgpfdnaaDoor
namespace Go.Proofs.YtmlopkkbgpfdnaaDoor
open Go.RowKit

set_option maxHeartbeats 800000 in
set_option maxRecDepth 100000 in
/-- ref less -/
theorem lessR_any (x y : Nat) (u v : Value) (w : World) (hx : Wd w u (dig x)) (hy : Wd w v (dig y)) (lx : (dig x).length ≤ 1000000) (hyx : y ≤ x) :
    Calls Tryd.prog 48 #[u, v] w fun e w' => ∃ r, e = .returned r ∧ Wd w' r (dig (x - y)) ∧ Below w.heap.size w w' := by
  have hly := dig_len_mono hyx
  obtain ⟨A, c, rfl, -, -⟩ := hx.shape
  obtain ⟨A', c', rfl, -, -⟩ := hy.shape
  obtain ⟨nx, hnx⟩ : ∃ n, n = (dig x).length := ⟨_, rfl⟩
  obtain ⟨ny, hny⟩ : ∃ n, n = (dig y).length := ⟨_, rfl⟩
  rw [← hnx] at lx hx hly ⊢
  rw [← hny] at hy hly ⊢
  have Hx := Lib.hid hx; clear hx
  have Hy := Lib.hid hy; clear hy
  have Hnx := Lib.hid hnx; clear hnx
  have Hny := Lib.hid hny; clear hny
  have Hyx := Lib.hid hyx; clear hyx
  have hmk : ∀ w, (Instr.makeSlice 41 (.int .i64 (nx : Int)) (.int .i64 (nx : Int))).run Tryd.prog w = .ok (.slice (some ⟨w.heap.size, 0, none⟩) nx nx) (w.alloc (.cells (U32s (zeros nx)) 45)) := fun w => make_u32 41 Tryd.underlying41 nx (by omega) w
  go_enter Tryd.func48, Tryd.ntmps48
  go_wp2_with fail
  go_loopw [6, 14] (fun cr i wr => ∃ (k cv : Nat) (L : List Nat), i = .int .i64 k ∧ k ≤ nx ∧ cr = .int .u64 cv ∧ cv ≤ 1 ∧ L.length = nx ∧ Ok L ∧ Blk wr w.heap.size L ∧ Below w.heap.size w wr ∧
      val (L.take k) + y % 4294967296 ^ k = x % 4294967296 ^ k + 4294967296 ^ k * cv) (fun _ i _ => nx - (intOf i).toNat)
  case atStart => exact ⟨0, 0, zeros nx, rfl, Nat.zero_le _, rfl, by omega, zeros_length _, zeros_ok _, heap_alloc_new w _, below_alloc _ _, by simp [val, Nat.mod_one]⟩
  case round =>
    obtain ⟨k, cv, L, rfl, hk, rfl, hcv, hL, hok, hblk, hbel, hval⟩ := hrel
    have HV := Lib.hid hval; clear hval
    have HL := Lib.hid hL; clear hL
    have HX := Lib.hid (Hx.out.below hbel)
    have HY := Lib.hid (Hy.out.below hbel)
    by_cases hlt : k < nx
    · have hfr := hblk.frozen k
      have hce := hblk.cell (i := k) (by rw [HL.out]; omega)
      have hB := Lib.hid hblk; clear hblk
      obtain ⟨b, off, rfl, hb, hc⟩ := Wd.cell (k := k) HX.out hlt
      have hxk := hc k hlt
      clear hc
      obtain ⟨p, hp⟩ : ∃ p, p = dg x k := ⟨_, rfl⟩
      have hpl : p < 4294967296 := by rw [hp]; exact dg_lt _ _
      rw [← hp] at hxk
      have Hp := Lib.hid hp; clear hp
      by_cases hky : k < ny
      · obtain ⟨b', off', rfl, hb', hc'⟩ := Wd.cell (k := k) HY.out hky
        have hyk := hc' k hky
        clear hc'
        obtain ⟨q, hq⟩ : ∃ q, q = dg y k := ⟨_, rfl⟩
        have hql : q < 4294967296 := by rw [hq]; exact dg_lt _ _
        rw [← hq] at hyk
        have Hq := Lib.hid hq; clear hq
        by_cases hge : q + cv ≤ p
        · go_wp2_with fail
          have w1 : ((p : Int) - cv - q) = ((p - cv - q : Nat) : Int) := by omega
          have w2 : ((p : Int) - cv - q) / 9223372036854775808 = ((0 : Nat) : Int) := by omega
          rw [w2, w1]
          go_roundw
          case rel =>
            refine ⟨k + 1, 0, L.set k (p - cv - q), by go_num, by omega, rfl, by omega, by rw [List.length_set, HL.out], hok.set (by omega), hB.out.set_ k _, hbel.setCell (Nat.le_refl _) _, ?_⟩
            rw [val_take_set (by rw [HL.out]; omega)]
            exact sub_round HV.out hcv (by rw [← Hp.out, ← Hq.out]; omega) (by rw [← Hp.out, ← Hq.out]; rw [if_neg (by omega)])
          case measure => simp [intOf]; omega
        · have hlt2 : p < q + cv := by omega
          go_wp2_with fail
          have w1 : (IntKind.u64.wrap (IntKind.u64.wrap ((p : Int) - cv) - q)) % 4294967296 = ((p + 4294967296 - q - cv : Nat) : Int) := by rw [IntKind.wrap_u64, IntKind.wrap_u64]; omega
          have w2 : (IntKind.u64.wrap (IntKind.u64.wrap ((p : Int) - cv) - q)) / 9223372036854775808 = ((1 : Nat) : Int) := by rw [IntKind.wrap_u64, IntKind.wrap_u64]; omega
          rw [w1, w2]
          go_roundw
          case rel =>
            refine ⟨k + 1, 1, L.set k (p + 4294967296 - q - cv), by go_num, by omega, rfl, by omega, by rw [List.length_set, HL.out], hok.set (by omega), hB.out.set_ k _, hbel.setCell (Nat.le_refl _) _, ?_⟩
            rw [val_take_set (by rw [HL.out]; omega)]
            exact sub_round HV.out hcv (by rw [← Hp.out, ← Hq.out]; omega) (by rw [← Hp.out, ← Hq.out]; rw [if_pos (by omega)])
          case measure => simp [intOf]; omega
      · have hq : 0 = dg y k := by rw [dg_zero (by rw [← Hny.out]; omega)]
        have Hq := Lib.hid hq; clear hq
        by_cases hge : cv ≤ p
        · go_wp2_with fail
          have w1 : ((p : Int) - cv) = ((p - cv : Nat) : Int) := by omega
          have w2 : ((p : Int) - cv) / 9223372036854775808 = ((0 : Nat) : Int) := by omega
          rw [w2, w1]
          go_roundw
          case rel =>
            refine ⟨k + 1, 0, L.set k (p - cv), by go_num, by omega, rfl, by omega, by rw [List.length_set, HL.out], hok.set (by omega), hB.out.set_ k _, hbel.setCell (Nat.le_refl _) _, ?_⟩
            rw [val_take_set (by rw [HL.out]; omega)]
            exact sub_round HV.out hcv (by rw [← Hp.out, ← Hq.out]; omega) (by rw [← Hp.out, ← Hq.out]; rw [if_neg (by omega)])
          case measure => simp [intOf]; omega
        · have hlt2 : p < cv := by omega
          go_wp2_with fail
          have w1 : (IntKind.u64.wrap ((p : Int) - cv)) % 4294967296 = ((p + 4294967296 - cv : Nat) : Int) := by rw [IntKind.wrap_u64]; omega
          have w2 : (IntKind.u64.wrap ((p : Int) - cv)) / 9223372036854775808 = ((1 : Nat) : Int) := by rw [IntKind.wrap_u64]; omega
          rw [w1, w2]
          go_roundw
          case rel =>
            refine ⟨k + 1, 1, L.set k (p + 4294967296 - cv), by go_num, by omega, rfl, by omega, by rw [List.length_set, HL.out], hok.set (by omega), hB.out.set_ k _, hbel.setCell (Nat.le_refl _) _, ?_⟩
            rw [val_take_set (by rw [HL.out]; omega)]
            exact sub_round HV.out hcv (by rw [← Hp.out, ← Hq.out]; omega) (by rw [← Hp.out, ← Hq.out]; rw [if_pos (by omega)])
          case measure => simp [intOf]; omega
    · have hkn : k = nx := by omega
      subst hkn
      have hB := Lib.hid hblk; clear hblk
      have hv : val L = x - y := by
        have e := HV.out
        rw [List.take_of_length_le (by rw [HL.out]; omega), mod_len (x := x) (by rw [← Hnx.out]; omega)] at e
        have hxl := val_lt hok
        rw [HL.out] at hxl
        have hyy : y % 4294967296 ^ k = y := mod_len (by rw [← Hny.out]; exact hly)
        rw [hyy] at e
        have := Hyx.out
        rcases (by omega : cv = 0 ∨ cv = 1) with h | h
        · subst h; omega
        · subst h; have hlt := lt_of_dig_len (n := x) (k := k) (by rw [← Hnx.out]; omega); omega
      have hw2 := hB.out.wd hok (by rw [HL.out]; omega) k (by rw [HL.out]; omega) (by omega)
      rw [HL.out] at hw2
      have Hw := Lib.hid hw2; clear hw2
      have Hv := Lib.hid hv; clear hv
      go_wp2_with fail
      refine (trimR_any _ _ _ Hw.out).mono ?_
      rintro e w' ⟨r, rfl, hr, rfl⟩
      rw [Hv.out] at hr
      go_wp2
      go_ret
      exact ⟨r, rfl, hr, hbel⟩
end Go.Proofs.YtmlopkkbgpfdnaaDoor
