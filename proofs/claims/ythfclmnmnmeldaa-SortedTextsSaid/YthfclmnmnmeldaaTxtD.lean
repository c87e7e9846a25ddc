/- package sorted at texts: Of, Without. Conditions: at most 2^40 values. -/
import Derived.Test.YthfclmnmnmeldaaTxtC
namespace Go.Proofs.Ythfclmnmnmeldaa.S
open Go.RowKit Go.Shelf Go.Sort
attribute [local go_sem] Oper.semAt_some

theorem setS_eq (zs : List (List UInt8)) : setS zs = Lib.compact (zs.mergeSort fun x y => decide (x ≤ y)) := rfl

theorem ordered_any (blk cap : Nat) (zs : List (List UInt8)) (w : World) (hH : Holds encStr w blk 0 zs.toArray) (hblk : blk < w.heap.size) (hcap : zs.length ≤ cap) (hm : zs.length ≤ 1099511627776) :
    Calls Try.prog 38 #[.slice (some ⟨blk, 0, none⟩) zs.length cap] w fun e w' => e = .returned (.agg #[.slice (some ⟨blk, 0, none⟩) (setS zs).length cap]) ∧ SetIs encStr w' (.agg #[.slice (some ⟨blk, 0, none⟩) (setS zs).length cap]) (setS zs) ∧ Keep (fun b => b ≠ blk) w w' := by
  have b0 := Boxed.new w 43 (.slice none 0 0)
  have hH0 := holds_keep hH (Keep.alloc (fun _ => True) w (.cells #[.slice none 0 0] 43)) trivial hblk
  have k0 := Keep.alloc (fun b => b ≠ blk) w (.cells #[.slice none 0 0] 43)
  obtain ⟨W, hW⟩ : ∃ W, w.alloc (.cells #[.slice none 0 0] 43) = W := ⟨_, rfl⟩
  have hbW : blk < W.heap.size := by rw [← hW]; simp; omega
  have hsz : w.heap.size < W.heap.size := by rw [← hW]; simp
  rw [hW] at b0 hH0 k0
  have con1 := Try.slices_Sort_string blk 0 cap zs W hH0 hbW (by omega)
  have HW := Lib.hid hW
  have HL := Lib.hid (List.length_mergeSort (le := fun x y : List UInt8 => decide (x ≤ y)) zs)
  have HC := Lib.hid (setS_length zs)
  have HS := Lib.hid (setS_eq zs)
  generalize (zs.mergeSort fun x y : List UInt8 => decide (x ≤ y)) = ss at con1 HL HS
  clear hW hH
  go_enter Try.func38, Try.ntmps38
  go_wp2_with fail
  rw [HW.out]
  refine con1.mono ?_
  rintro e W2 ⟨rfl, n, os, hW2⟩
  have hk2 : ∀ S : Nat → Prop, ¬ S blk → Keep S W W2 := fun S hS => by
    rw [hW2]; exact ((keep_ahead S W n).trans (keep_putRow S _ _ _ _ _ hS)).trans (keep_grow S _ os)
  have hH2 : Holds encStr W2 blk 0 ss.toArray := by
    rw [hW2]
    exact holds_keep (holds_putRow _ _ _ _ zs.toArray ss.toArray (holds_ahead _ W n blk 0 _ hH0) (by simp [HL.out])) (keep_grow (fun _ => True) _ os) trivial (by simp; exact hbW)
  have hs2 := (hk2 (fun _ => False) (fun h => h)).size
  clear hW2
  have con2 := Try.slices_Compact_string blk 0 cap ss W2 hH2 (by rw [HL.out]; omega) (by rw [HL.out]; exact hcap)
  rw [HL.out] at con2
  go_wp2_with fail
  refine con2.mono ?_
  rintro e W3 ⟨rfl, n3, hW3⟩
  rw [← HS.out] at hW3
  have HL3 : ((setS zs ++ List.replicate (zs.length - (setS zs).length) []).toArray).size = ss.toArray.size := by have := HC.out; simp [HL.out]; omega
  have hk3 : ∀ S : Nat → Prop, ¬ S blk → Keep S W2 W3 := fun S hS => by
    rw [hW3]; exact (keep_ahead S W2 n3).trans (keep_putRow S _ _ _ _ _ hS)
  have hH3 : Holds encStr W3 blk 0 (setS zs ++ List.replicate (zs.length - (setS zs).length) []).toArray := by
    rw [hW3]
    exact holds_putRow _ _ _ _ ss.toArray _ (holds_ahead _ W2 n3 blk 0 _ hH2) HL3
  have hs3 := (hk3 (fun _ => False) (fun h => h)).size
  clear hW3 HL3
  have k3 := k0.trans ((hk2 (fun b => b ≠ blk) (by simp)).trans (hk3 _ (by simp)))
  have b3 := (hk3 (fun b => b ≠ blk) (by simp)).boxed ((hk2 (fun b => b ≠ blk) (by simp)).boxed b0 (by omega)) (by omega)
  have cR := b3.cell
  have fR := b3.frozen
  rw [← HS.out]
  have HCc := HC.out
  have hsl : SlIn encStr W3 (some ⟨blk, 0, none⟩) (setS zs).length (setS zs) := by
    refine ⟨rfl, fun _ => ⟨blk, 0, rfl, by omega, fun i x hx => ?_⟩⟩
    have hi : i < (setS zs).length := (List.getElem?_eq_some_iff.1 hx).1
    have := (hH3 i (by simp; omega)).1
    rw [this]
    congr 1
    have hx' := List.getElem?_eq_some_iff.1 hx
    obtain ⟨_, rfl⟩ := hx'
    simp
    rw [List.getElem?_append_left hi, List.getElem?_eq_getElem hi]
    rfl
  clear hH3 hH2 hH0 con1 con2
  go_wp2
  have hbr2 := (b3.set (.slice (some ⟨blk, 0, none⟩) (setS zs).length cap)).cell
  have hne : blk ≠ w.heap.size := by omega
  refine bodyPost_ret (v := .agg #[.slice (some ⟨blk, 0, none⟩) (setS zs).length cap]) (by simp [results, Try.f38, go_sem, hbr2]) rfl ⟨rfl, ⟨_, _, _, rfl, by omega, by omega, ?_, setS_rises zs⟩, ?_⟩
  · exact hsl.keep (Keep.setCell (S := fun b => b ≠ w.heap.size) _ _ _ (by simp)) fun a h _ => by cases h; exact hne
  · exact ((k3.mono (T := fun b => b < w.heap.size ∧ b ≠ blk) fun k _ h => h.2).trans (Keep.setCell _ _ _ (by simp))).mono fun k hk h => ⟨hk, h⟩

theorem ordered_none (q : Option Addr) (cap : Nat) (w : World) (_hcap : q = none → cap = 0) :
    Calls Try.prog 38 #[.slice q 0 cap] w fun e w' => e = .returned (.agg #[.slice q 0 cap]) ∧ Below w.heap.size w w' := by
  have con1 := fun W => Try.slices_Sort_string_none q cap W
  have con2 := fun W => Try.slices_Compact_string_empty q cap W
  have b0 := Boxed.new w 43 (.slice none 0 0)
  go_enter Try.func38, Try.ntmps38
  go_wp2_with fail
  refine (con1 _).mono ?_
  rintro e w1 ⟨rfl, rfl⟩
  go_wp2_with fail
  refine (con2 _).mono ?_
  rintro e w2 ⟨rfl, rfl⟩
  go_wp2
  have hbr2 := (b0.set (.slice q 0 cap)).cell
  refine bodyPost_ret (v := .agg #[.slice q 0 cap]) (by simp [results, Try.f38, go_sem]) rfl ⟨rfl, below_alloc _⟩

theorem setS_nil : setS [] = [] := List.eq_nil_of_length_eq_zero (Nat.le_zero.1 (setS_length []))

/-- ordered at a row of one's own. -/
theorem ordered_own (base : Nat) (v : Value) (n : Nat) (zs : List (List UInt8)) (w : World) (h : w.ownsRow base 9 1 v n (zs.map encStr)) (hbase : base ≤ w.heap.size) (hm : n ≤ 1099511627776) :
    Calls Try.prog 38 #[v] w fun e w' => ∃ q c, e = .returned (.agg #[.slice q (setS zs).length c]) ∧ SetIs encStr w' (.agg #[.slice q (setS zs).length c]) (setS zs) ∧ (∀ a, q = some a → base ≤ a.block ∧ a.block < w.heap.size) ∧ Below base w w' := by
  by_cases hv : v = .slice none 0 0
  · subst hv
    have hl : zs = [] := by
      have h1 := h.1
      rcases h.2 with ⟨_, h2⟩ | ⟨g, cap, cur, h2, _⟩
      · simp [h2] at h1; exact h1
      · cases h2
    subst hl
    refine (ordered_none none 0 w (fun _ => rfl)).mono fun e w' ⟨he, hb⟩ => ?_
    rw [setS_nil]
    exact ⟨none, 0, he, ⟨_, _, _, rfl, Nat.le_refl _, Nat.zero_le _, SlIn.nil _ _ _, List.Pairwise.nil⟩, (by intro a h; cases h), hb.mono hbase⟩
  · obtain ⟨g, cap, rfl, hb, hlt, hn, hcm, hl, hH⟩ := Lib.holds_of_ownsRow h hv
    subst hl
    refine (ordered_any g cap zs w hH hlt hn hm).mono fun e w' ⟨he, hs, hk⟩ => ⟨_, _, he, hs, by intro a h; cases h; exact ⟨hb, hlt⟩, (hk.mono fun b _ h => by omega).below hbase⟩

set_option maxRecDepth 100000 in
set_option maxHeartbeats 1000000 in
theorem Of_any (q : Option Addr) (n c : Nat) (zs : List (List UInt8)) (w : World) (h : SlIn encStr w q n zs) (hq : q = none → c = 0) (hm : n ≤ 1099511627776) :
    Calls Try.prog 23 #[.slice q n c] w fun e w' => ∃ v, e = .returned v ∧ SetIs encStr w' v (setS zs) ∧ Below w.heap.size w w' := by
  obtain ⟨i0, hi0, hz0, hz1, hz2⟩ := info_parts info_str
  have b0 := Boxed.new w 43 (.slice none 0 0)
  have h0 := h.alloc (.cells #[.slice none 0 0] 43)
  have hb0 := below_alloc (w := w) (.cells #[.slice none 0 0] 43)
  have hsz : (w.alloc (.cells #[.slice none 0 0] 43)).heap.size = w.heap.size + 1 := by simp
  obtain ⟨W, hW⟩ : ∃ W, w.alloc (.cells #[.slice none 0 0] 43) = W := ⟨_, rfl⟩
  rw [hW] at b0 h0 hb0 hsz
  have hsz' := Lib.hid hsz
  have hl := Lib.hid h.1
  have HW := Lib.hid hW
  clear hsz h hW
  go_enter Try.func23, Try.ntmps23
  go_wp2_with (at_builtin; refine wpList_append_row (enc := encStr) rfl _ _ 41 9 rfl i0 (.string ByteArray.empty) 16 Try.underlying41 hi0 hz0 hz1 hz2 rfl (fun _ => rfl) (by decide) (w.heap.size + 1) (.slice none 0 0) 0 [] rfl (World.ownsRow_nil _ _ _ _) q n c zs rfl hq (by rw [HW.out]; exact h0) (by omega) (by simp) ?_; intro v1 w1 hown hgrow)
  rw [HW.out] at hgrow
  simp only [Nat.zero_add, List.nil_append] at hown
  have hgs := hgrow.size
  rw [hsz'.out] at hgs
  have con := ordered_own (w.heap.size + 1) v1 n zs w1 hown hgs hm
  have hk1 : Keep (fun _ => True) W w1 := Keep.of_grownBy hgrow (fun r hr => by cases hr)
  have b1 := hk1.boxed b0 trivial
  have hb1 : Below w.heap.size w w1 := hb0.trans ((hk1.mono (T := (· < w.heap.size)) fun _ _ _ => trivial).below hb0.size)
  clear hown hgrow hk1
  go_wp2_with fail
  refine con.mono ?_
  rintro e w2 ⟨q2, c2, rfl, hset, hqb, hbel⟩
  have b2 := (Keep.of_below hbel).boxed b1 (by omega)
  have cR := b2.cell
  have fR := b2.frozen
  have hb2 := hb1.trans (hbel.mono (by omega))
  clear con
  obtain ⟨_, _, _, he, hc2, hm2, hsl, hr⟩ := hset
  cases he
  go_wp2
  have hbr2 := (b2.set (.slice q2 (setS zs).length c2)).cell
  refine bodyPost_ret (v := .agg #[.slice q2 (setS zs).length c2]) (by simp [results, Try.f23, go_sem, hbr2]) rfl ⟨_, rfl, ⟨q2, (setS zs).length, c2, rfl, hc2, hm2, ?_, hr⟩, hb2.setCell (Nat.le_refl _) _⟩
  exact hsl.keep (Keep.setCell (S := fun b => w.heap.size + 1 ≤ b) w2 ⟨w.heap.size, 0, none⟩ _ (by simp)) fun a h _ => (hqb a h).1

set_option maxRecDepth 100000 in
set_option maxHeartbeats 1000000 in
theorem Without_any (v : Value) (xs zs : List (List UInt8)) (q : Option Addr) (n c : Nat) (w : World) (h : SetIs encStr w v xs) (hz : SlIn encStr w q n zs) (hq : q = none → c = 0) (hm : n ≤ 1099511627776) (hm1 : xs.length ≤ 1099511627776) :
    Calls Try.prog 29 #[v, .slice q n c] w fun e w' => ∃ v, e = .returned v ∧ SetIs encStr w' v (pickL [1] xs (setS zs)) ∧ Below w.heap.size w w' := by
  have hset := h
  obtain ⟨q1, n1, c1, rfl, hc1, hn1, hs1, hr1⟩ := h
  have hzl := hz.1
  have hsl := setS_length zs
  obtain ⟨W, hW⟩ : ∃ W, (w.alloc (.cells #[.slice q1 n1 c1] 43)).alloc (.cells #[.slice none 0 0] 43) = W := ⟨_, rfl⟩
  have hBW : Below w.heap.size w W := by rw [← hW]; exact ((Below.refl _ w).alloc (Nat.le_refl _) _).alloc (by simp) _
  have hsz : W.heap.size = w.heap.size + 2 := by rw [← hW]; simp
  have b0 : Boxed W w.heap.size 43 (.slice q1 n1 c1) := by rw [← hW]; exact (Boxed.new w _ _).alloc _
  have b1 : Boxed W (w.heap.size + 1) 43 (.slice none 0 0) := by
    rw [← hW]
    have := Boxed.new (w.alloc (.cells #[.slice q1 n1 c1] 43)) 43 (.slice none 0 0)
    rwa [World.size_alloc] at this
  have hzW := hz.below hBW hz.lt
  have hsW := hset.below hBW
  have HW := Lib.hid hW
  have HS := Lib.hid hsz
  clear hW hsz hz hset hs1
  have con := Of_any q n c zs W.drew hzW.drew hq hm
  go_enter Try.func29, Try.ntmps29
  go_wp2_with fail
  rw [HW.out]
  refine pregion_any (fun X => X.cell? ⟨w.heap.size, 0, none⟩ = some (.slice q1 n1 c1)) (by kernel_rfl) ?_
  refine wpAnyH_take (i := 0) (v := .agg #[.slice q1 n1 c1]) rfl (by kernel_rfl) (by kernel_rfl) (by kernel_rfl) (fun _ _ _ h => h) (.inl ⟨by kernel_rfl, ?_⟩) b0.cell ?_
  · intro w h1; go_simp
  refine wpAnyH_take (i := 1) (v := .slice q n c) rfl (by kernel_rfl) (by kernel_rfl) (by kernel_rfl) (fun _ _ _ h => h) (.inl ⟨by kernel_rfl, ?_⟩) b0.cell ?_
  · intro w h1; go_simp
  refine pone 2 (by kernel_rfl) rfl fun K hK => ?_
  go_simp
  refine con.mono ?_
  rintro e W2 ⟨v2, rfl, hset2, hbel2⟩
  have hbel2' : Below W.heap.size W W2 := ⟨hbel2.os, hbel2.tape, hbel2.output, hbel2.size, hbel2.block⟩
  have k2 := Keep.of_below hbel2'
  have b02 := k2.boxed b0 b0.lt
  have b12 := k2.boxed b1 b1.lt
  have con3 := Minus_any _ v2 xs (setS zs) W2 (hsW.below hbel2') hset2 hm1 (by omega)
  have hB2 := hBW.trans (hbel2'.mono hBW.size)
  refine hK _ _ b02.cell ?_
  clear hK K con hset2
  refine pone 3 (by kernel_rfl) rfl fun K hK => ?_
  go_simp
  refine con3.mono ?_
  rintro e W3 ⟨v3, rfl, hset3, hbel3⟩
  have k3 := Keep.of_below hbel3
  have b03 := k3.boxed b02 b02.lt
  have b13 := k3.boxed b12 b12.lt
  have hB3 := hB2.trans (hbel3.mono hB2.size)
  have hset4 := fun u' => hset3.set (u' := u') b13 (fun x h => by cases h)
  obtain ⟨q3, n3, c3, rfl, _⟩ := hset3
  have b14 := b13.set (.slice q3 n3 c3)
  have hset5 := hset4 (.slice q3 n3 c3)
  have hB4 := hB3.setCell (p := ⟨w.heap.size + 1, 0, none⟩) (Nat.le_succ _) (.slice q3 n3 c3)
  refine hK _ _ b03.cell ?_
  clear hK K con3 hbel3 hset4
  have cR := b13.cell
  have fR := b13.frozen
  have c0 : (W3.setCell ⟨w.heap.size + 1, 0, none⟩ (.slice q3 n3 c3)).cell? ⟨w.heap.size, 0, none⟩ = some (.slice q1 n1 c1) := (World.cell?_setCell_other _ _ _ _ (by simp)).trans b03.cell
  refine pone 4 (by kernel_rfl) rfl fun K hK => ?_
  go_simp
  refine hK _ _ c0 ?_
  clear hK K
  refine pdone (by kernel_rfl) ?_ _
  have cR' := b14.cell
  clear b14 b03 b13 cR fR c0 hzW hsW
  go_wp2
  exact bodyPost_ret (v := .agg #[.slice q3 n3 c3]) (by simp [results, Try.f29, go_sem, cR']) rfl ⟨_, rfl, hset5, hB4⟩

end Go.Proofs.Ythfclmnmnmeldaa.S
