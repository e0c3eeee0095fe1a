/- Walks: SortFunc of stamps. -/
import Derived.Test.YtgjanbgehbpciaaF4
import Derived.Test.YtgjanbgehbpciaaSq
namespace Go.Proofs.Ytgjanbgehbpciaa
open Go.RowKit

section
variable {α : Type} [Inhabited α] {enc : α → List Value} {k : Nat} {w : World} {blk off m : Nat} {dk : Array α} {os : Array Obj}
theorem sw_block {b : Nat} (hb : b < w.heap.size) (hne : b ≠ blk) : (Proofs.sortWorldK enc k w blk off m dk os).heap[b]? = w.heap[b]? := by
  have hne' : ¬ blk = b := fun e => hne e.symm
  simp [Proofs.sortWorldK, Sort.grow, Sort.putRowK, Sort.putRow, Sort.mapBlock, Sort.ahead, Array.getElem?_append, hb, Array.getElem_modify, hne']
theorem sw_gx : Gx blk w (Proofs.sortWorldK enc k w blk off m dk os) :=
  ⟨rfl, rfl, rfl, by simp [Proofs.sortWorldK, Sort.grow, Sort.putRowK, Sort.putRow, Sort.mapBlock, Sort.ahead], fun b hb hne => sw_block hb (fun e => hne (by rw [e]))⟩
end

theorem sort_c (w h N gf cap n : Nat) (ds : List Sd) (W : World) (hn : n = ds.length) (hn1 : 1 ≤ n) (hn5 : n ≤ 1000) (hN : N ≤ 1000) (hrw : Rw W w h N gf ds)
    (har : ∀ x ∈ ds, Ar3 W x.b x.l ∧ x.l.length = N ∧ x.b ≠ gf) :
    Calls Try.prog 90 #[.slice (some ⟨gf, 0, none⟩) n cap, .func (.func 91) #[] #[]] W fun e W' => e = .returned (.tuple #[]) ∧ ∃ es : List Sd, es.Perm ds ∧ es.Pairwise (fun a b => ltL b.l a.l = false) ∧ Rw W' w h N gf es ∧ Gx gf W W' := by
  let α := { x : Sd // Ar3 W x.b x.l ∧ x.l.length = N ∧ x.b ≠ gf }
  have hx0 : ∃ x, x ∈ ds := ⟨_, List.getElem_mem (show 0 < ds.length by omega)⟩
  obtain ⟨x0, hx0⟩ := hx0
  let _ : Inhabited α := ⟨⟨x0, har x0 hx0⟩⟩
  let enc : α → List Value := fun x => encS w h N x.1
  let cf : α → α → Int := fun x y => cmpL x.1.l y.1.l
  obtain ⟨dl, hdl⟩ : ∃ dl : List α, dl = ds.pmap (fun x hx => ⟨x, hx⟩) har := ⟨_, rfl⟩
  have hmap : dl.map (·.1) = ds := by rw [hdl, List.map_pmap]; simp
  have hlen : dl.length = n := by rw [hn, ← hmap, List.length_map]
  have hSWO : Sort.SWO (Proofs.ltOf cf) := ⟨fun x => ltL_irrefl x.1.l, fun x y z h1 h2 => ltL_trans x.1.l y.1.l z.1.l h1 h2, fun x y z h1 h2 => ltL_ntrans x.1.l y.1.l z.1.l h1 h2⟩
  have eg : ∀ args w, (callFunc 91 args).run Try.prog w = .ok (.enter 91 args) w := enters_of Try.func91 (by kernel_rfl) rfl
  have hget : ∀ i (hi : i < dl.length), dl.toArray[i]! = dl[i] := fun i hi => by simp [hi]
  have hH : Sort.HoldsK enc 3 W gf 0 dl.toArray := by
    intro t ht
    rw [Sort.size_flatK] at ht
    have ht' : t < dl.length * 3 := by simpa using ht
    rw [Sort.get_flatK _ _ _ _ ht, Nat.zero_add]
    have hi : t / 3 < dl.length := by omega
    have hds : ds[t / 3]? = some (dl[t / 3]).1 := by rw [← hmap, List.getElem?_map, List.getElem?_eq_getElem hi]; rfl
    obtain ⟨c0, c1, c2⟩ := hrw.2.1 _ _ hds
    refine ⟨?_, hrw.2.2 t (by rw [← hn, ← hlen]; exact ht')⟩
    rw [hget _ hi]
    rcases (by omega : t % 3 = 0 ∨ t % 3 = 1 ∨ t % 3 = 2) with e | e | e
    · have et : t = t / 3 * 3 := by omega
      rw [e]; rw [← et] at c0; rw [c0]; rfl
    · have et : t = t / 3 * 3 + 1 := by omega
      rw [e]; rw [← et] at c1; rw [c1]; rfl
    · have et : t = t / 3 * 3 + 2 := by omega
      rw [e]; rw [← et] at c2; rw [c2]; rfl
  have hcmp : Proofs.CmpLays Try.prog 91 #[] enc 3 cf gf 0 dl.toArray.size W := by
    intro m os dk hdk x y
    obtain ⟨a1, a2, a3⟩ := x.2
    obtain ⟨b1, b2, b3⟩ := y.2
    have gx : Gx gf W (Proofs.sortWorldK enc 3 W gf 0 m dk os) := sw_gx
    have A := a1.gx gx a3
    have B := b1.gx gx b3
    refine (inOrder_c w h w h x.1.b 0 N y.1.b 0 N N x.1.l y.1.l _ hN a2 b2 A.lt B.lt (fun j hj => by rw [Nat.zero_add]; exact A.cell (by omega)) (fun j hj => by rw [Nat.zero_add]; exact B.cell (by omega))).mono ?_
    rintro e V ⟨rfl, o1, o2, rfl⟩
    exact ⟨rfl, 0, #[o1] ++ #[o2], by rw [Sort.alloc_eq_grow, Sort.alloc_eq_grow, Sort.grow_grow]; rfl⟩
  have hcon := Proofs.AnyQ.slices_SortFunc sortSt 3 Try.isAgg27 Try.sizeOf27 enc (fun _ => rfl) (fun x v hv => by simp [enc, encS] at hv; rcases hv with rfl | rfl | rfl <;> rfl) cf hSWO 91 #[] gf 0 cap dl.toArray W eg hcmp hH hrw.1 (by simp; omega)
  have hsz : dl.toArray.size = n := by simpa using hlen
  rw [hsz] at hcon
  refine hcon.mono ?_
  rintro e V ⟨rfl, d', m, os, hp, hs, rfl⟩
  have hd' : d'.size = n := by rw [hp.1, hsz]
  have hperm : d'.toList.Perm dl := by
    have := hp.2.2
    rw [Array.extract_eq_self_of_le (by omega), Array.extract_eq_self_of_le (by rw [hsz]; exact Nat.le_refl _)] at this
    exact this
  have hH2 := Proofs.holdsK_sortWorldK_c enc 3 W gf 0 dl.toArray d' m os hH hrw.1 (by rw [hd', hsz])
  refine ⟨rfl, d'.toList.map (·.1), ?_, ?_, ?_, sw_gx⟩
  · have := hperm.map (·.1)
    rwa [hmap] at this
  · rw [List.pairwise_map, List.pairwise_iff_getElem]
    intro i j hi hj hij
    have h1 : i < d'.size := by simpa using hi
    have h2 : j < d'.size := by simpa using hj
    have := hs i j (Nat.zero_le _) hij (by omega)
    rw [getElem!_pos d' i h1, getElem!_pos d' j h2] at this
    exact this
  · refine ⟨Nat.lt_of_lt_of_le hrw.1 (sw_gx (enc := enc)).size, fun i x hx => ?_, fun o ho => ?_⟩
    · rw [List.getElem?_map] at hx
      have hi : i < d'.size := by
        rcases Nat.lt_or_ge i d'.size with h1 | h1
        · exact h1
        · rw [List.getElem?_eq_none (by simpa using h1)] at hx; cases hx
      have hxi : (d'[i]!).1 = x := by
        rw [List.getElem?_eq_getElem (by simpa using hi)] at hx
        rw [getElem!_pos d' i hi]
        simpa using hx
      have q0 := (hH2.cell hi (show 0 < 3 by decide)).1
      have q1 := (hH2.cell hi (show 1 < 3 by decide)).1
      have q2 := (hH2.cell hi (show 2 < 3 by decide)).1
      simp only [Nat.zero_add, Nat.add_zero] at q0 q1 q2
      refine ⟨q0, q1, ?_⟩
      rw [← hxi]; exact q2
    · rw [List.length_map] at ho
      have ho' : o < d'.size * 3 := by simpa using ho
      have := (hH2 o (by rw [Sort.size_flatK]; exact ho')).2
      rwa [Nat.zero_add] at this
end Go.Proofs.Ytgjanbgehbpciaa
