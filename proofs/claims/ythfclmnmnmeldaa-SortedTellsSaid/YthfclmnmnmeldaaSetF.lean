/- package sorted: the set of some values. Conditions: at most 2^40 values. -/
import Derived.Test.YthfclmnmnmeldaaSetE
import Derived.Test.YthfclmnmnmeldaaSetN
namespace Go.Proofs.Ythfclmnmnmeldaa
open Go.RowKit Go.Shelf Go.Sort

theorem keep_putRow {α : Type} [Inhabited α] (S : Nat → Prop) (enc : α → Value) (w : World) (blk off : Nat) (d : Array α) (h : ¬ S blk) : Keep S w (putRow enc w blk off d) :=
  ⟨rfl, rfl, rfl, by simp, fun k hk hs => by
    have : blk ≠ k := fun e => h (e ▸ hs)
    simp [putRow, mapBlock, Array.getElem?_modify, this]⟩
theorem keep_grow (S : Nat → Prop) (w : World) (os : Array Obj) : Keep S w (Sort.grow w os) :=
  ⟨rfl, rfl, rfl, by simp [Sort.grow], fun k hk _ => by simp [Sort.grow, Array.getElem?_append, hk]⟩
theorem keep_ahead (S : Nat → Prop) (w : World) (n : Nat) : Keep S w (Sort.ahead w n) := ⟨rfl, rfl, rfl, Nat.le_refl _, fun _ _ _ => rfl⟩
theorem holds_keep {α : Type} [Inhabited α] {enc : α → Value} {S : Nat → Prop} {w w' : World} {blk off : Nat} {d : Array α} (h : Holds enc w blk off d) (hk : Keep S w w') (hS : S blk) (hb : blk < w.heap.size) : Holds enc w' blk off d :=
  fun j hj => ⟨(World.cell?_of_block (hk.block blk hb hS)).trans (h j hj).1, (World.frozen?_of_block (hk.block blk hb hS)).trans (h j hj).2⟩

theorem setI_eq (zs : List Int) : setI zs = Lib.compact (zs.mergeSort fun x y => decide (x ≤ y)) := rfl

theorem ordered_any (blk cap : Nat) (zs : List Int) (w : World) (hH : Holds (Value.int .i64) w blk 0 zs.toArray) (hblk : blk < w.heap.size) (hcap : zs.length ≤ cap) (hm : zs.length ≤ 1099511627776) :
    Calls Try.prog 31 #[.slice (some ⟨blk, 0, none⟩) zs.length cap] w fun e w' => e = .returned (.agg #[.slice (some ⟨blk, 0, none⟩) (setI zs).length cap]) ∧ SetIs (Value.int .i64) w' (.agg #[.slice (some ⟨blk, 0, none⟩) (setI zs).length cap]) (setI zs) ∧ Keep (fun b => b ≠ blk) w w' := by
  have b0 := Boxed.new w 25 (.slice none 0 0)
  have hH0 := holds_keep hH (Keep.alloc (fun _ => True) w (.cells #[.slice none 0 0] 25)) trivial hblk
  have k0 := Keep.alloc (fun b => b ≠ blk) w (.cells #[.slice none 0 0] 25)
  obtain ⟨W, hW⟩ : ∃ W, w.alloc (.cells #[.slice none 0 0] 25) = W := ⟨_, rfl⟩
  have hbW : blk < W.heap.size := by rw [← hW]; simp; omega
  have hsz : w.heap.size < W.heap.size := by rw [← hW]; simp
  rw [hW] at b0 hH0 k0
  have con1 := Try.slices_Sort_int blk 0 cap zs W hH0 hbW (by omega)
  have HW := Lib.hid hW
  have HL := Lib.hid (List.length_mergeSort (le := fun x y : Int => decide (x ≤ y)) zs)
  have HC := Lib.hid (setI_length zs)
  have HS := Lib.hid (setI_eq zs)
  generalize (zs.mergeSort fun x y : Int => decide (x ≤ y)) = ss at con1 HL HS
  clear hW hH
  go_enter Try.func31, Try.ntmps31
  go_wp2_with fail
  rw [HW.out]
  refine con1.mono ?_
  rintro e W2 ⟨rfl, n, os, hW2⟩
  have hk2 : ∀ S : Nat → Prop, ¬ S blk → Keep S W W2 := fun S hS => by
    rw [hW2]; exact ((keep_ahead S W n).trans (keep_putRow S _ _ _ _ _ hS)).trans (keep_grow S _ os)
  have hH2 : Holds (Value.int .i64) W2 blk 0 ss.toArray := by
    rw [hW2]
    exact holds_keep (holds_putRow _ _ _ _ zs.toArray ss.toArray (holds_ahead _ W n blk 0 _ hH0) (by simp [HL.out])) (keep_grow (fun _ => True) _ os) trivial (by simp; exact hbW)
  have hs2 := (hk2 (fun _ => False) (fun h => h)).size
  clear hW2
  have con2 := Try.slices_Compact_int blk 0 cap ss W2 hH2 (by rw [HL.out]; omega) (by rw [HL.out]; exact hcap)
  rw [HL.out] at con2
  go_wp2_with fail
  refine con2.mono ?_
  rintro e W3 ⟨rfl, n3, hW3⟩
  rw [← HS.out] at hW3
  have HL3 : ((setI zs ++ List.replicate (zs.length - (setI zs).length) 0).toArray).size = ss.toArray.size := by have := HC.out; simp [HL.out]; omega
  have hk3 : ∀ S : Nat → Prop, ¬ S blk → Keep S W2 W3 := fun S hS => by
    rw [hW3]; exact (keep_ahead S W2 n3).trans (keep_putRow S _ _ _ _ _ hS)
  have hH3 : Holds (Value.int .i64) W3 blk 0 (setI zs ++ List.replicate (zs.length - (setI zs).length) 0).toArray := by
    rw [hW3]
    exact holds_putRow _ _ _ _ ss.toArray _ (holds_ahead _ W2 n3 blk 0 _ hH2) HL3
  have hs3 := (hk3 (fun _ => False) (fun h => h)).size
  clear hW3 HL3
  have k3 := k0.trans ((hk2 (fun b => b ≠ blk) (by simp)).trans (hk3 _ (by simp)))
  have b3 := (hk3 (fun b => b ≠ blk) (by simp)).boxed ((hk2 (fun b => b ≠ blk) (by simp)).boxed b0 (by omega)) (by omega)
  have cR := b3.cell
  have fR := b3.frozen
  rw [← HS.out]
  have HCc := HC.out
  have hsl : SlIn (Value.int .i64) W3 (some ⟨blk, 0, none⟩) (setI zs).length (setI zs) := by
    refine ⟨rfl, fun _ => ⟨blk, 0, rfl, by omega, fun i x hx => ?_⟩⟩
    have hi : i < (setI zs).length := (List.getElem?_eq_some_iff.1 hx).1
    have := (hH3 i (by simp; omega)).1
    rw [this]
    congr 1
    have hx' := List.getElem?_eq_some_iff.1 hx
    obtain ⟨_, rfl⟩ := hx'
    simp
    rw [List.getElem?_append_left hi, List.getElem?_eq_getElem hi]
    rfl
  clear hH3 hH2 hH0 con1 con2
  go_wp2
  have hbr2 := (b3.set (.slice (some ⟨blk, 0, none⟩) (setI zs).length cap)).cell
  have hne : blk ≠ w.heap.size := by omega
  refine bodyPost_ret (v := .agg #[.slice (some ⟨blk, 0, none⟩) (setI zs).length cap]) (by simp [results, Try.f31, go_sem, hbr2]) rfl ⟨rfl, ⟨_, _, _, rfl, by omega, by omega, ?_, setI_rises zs⟩, ?_⟩
  · exact hsl.keep (Keep.setCell (S := fun b => b ≠ w.heap.size) _ _ _ (by simp)) fun a h _ => by cases h; exact hne
  · exact ((k3.mono (T := fun b => b < w.heap.size ∧ b ≠ blk) fun k _ h => h.2).trans (Keep.setCell _ _ _ (by simp))).mono fun k hk h => ⟨hk, h⟩

end Go.Proofs.Ythfclmnmnmeldaa
