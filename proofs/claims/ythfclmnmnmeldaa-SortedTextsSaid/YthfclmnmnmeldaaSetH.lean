/- package sorted: With and Without. Conditions: at most 2^39 values each. -/
import Derived.Test.YthfclmnmnmeldaaSetG
import Derived.Test.YthfclmnmnmeldaaOrdP
namespace Go.Proofs.Ythfclmnmnmeldaa
open Go.RowKit Go.Shelf Go.Sort

theorem SlIn.ne_box {α : Type} {enc : α → Value} {w : World} {q : Option Addr} {n : Nat} {xs : List α} {B : Nat} {t : TypeId} {v : Value} (h : SlIn enc w q n xs) (hB : Boxed w B t v) (hv : ∀ x, enc x ≠ v) : ∀ a, q = some a → 0 < n → a.block ≠ B := by
  rintro a rfl hn rfl
  obtain ⟨b, o, he, _, hc⟩ := h.at hn
  cases he
  cases xs with
  | nil => have := h.1; simp at this; omega
  | cons x xs =>
    have h1 := hc 0 x rfl
    have h2 : w.heap[b]? = some (.cells #[v] t) := hB
    simp only [World.cell?, h2] at h1
    by_cases ho : o + 0 = 0
    · rw [ho] at h1; simp at h1; exact hv x h1.symm
    · simp at h1; rw [List.getElem?_eq_none (by simp; omega)] at h1; cases h1
/-- A set does not mind what becomes of a box. -/
theorem SetIs.set {α : Type} [LT α] {enc : α → Value} {w : World} {v : Value} {xs : List α} {B : Nat} {t : TypeId} {u u' : Value} (h : SetIs enc w v xs) (hB : Boxed w B t u) (hv : ∀ x, enc x ≠ u) : SetIs enc (w.setCell ⟨B, 0, none⟩ u') v xs := by
  obtain ⟨q, n, c, rfl, h1, h2, h3, h4⟩ := h
  exact ⟨q, n, c, rfl, h1, h2, h3.keep (Keep.setCell (S := fun b => b ≠ B) _ _ _ (by simp)) (h3.ne_box hB hv), h4⟩

set_option maxRecDepth 100000 in
set_option maxHeartbeats 1000000 in
theorem With_any (v : Value) (xs zs : List Int) (q : Option Addr) (n c : Nat) (w : World) (h : SetIs (Value.int .i64) w v xs) (hz : SlIn (Value.int .i64) w q n zs) (hq : q = none → c = 0) (hm : n ≤ 1099511627776) (hm1 : xs.length ≤ 1099511627776) :
    Calls Try.prog 11 #[v, .slice q n c] w fun e w' => ∃ v, e = .returned v ∧ SetIs (Value.int .i64) w' v (pickL [1, 2, 3] xs (setI zs)) ∧ Below w.heap.size w w' := by
  have hset := h
  obtain ⟨q1, n1, c1, rfl, hc1, hn1, hs1, hr1⟩ := h
  have hzl := hz.1
  have hsl := setI_length zs
  obtain ⟨W, hW⟩ : ∃ W, (w.alloc (.cells #[.slice q1 n1 c1] 25)).alloc (.cells #[.slice none 0 0] 25) = W := ⟨_, rfl⟩
  have hBW : Below w.heap.size w W := by rw [← hW]; exact ((Below.refl _ w).alloc (Nat.le_refl _) _).alloc (by simp) _
  have hsz : W.heap.size = w.heap.size + 2 := by rw [← hW]; simp
  have b0 : Boxed W w.heap.size 25 (.slice q1 n1 c1) := by rw [← hW]; exact (Boxed.new w _ _).alloc _
  have b1 : Boxed W (w.heap.size + 1) 25 (.slice none 0 0) := by
    rw [← hW]
    have := Boxed.new (w.alloc (.cells #[.slice q1 n1 c1] 25)) 25 (.slice none 0 0)
    rwa [World.size_alloc] at this
  have hzW := hz.below hBW hz.lt
  have hsW := hset.below hBW
  have HW := Lib.hid hW
  have HS := Lib.hid hsz
  clear hW hsz hz hset hs1
  have con := Of_any q n c zs W.drew hzW.drew hq hm
  go_enter Try.func11, Try.ntmps11
  go_wp2_with fail
  rw [HW.out]
  refine pregion_any (fun X => X.cell? ⟨w.heap.size, 0, none⟩ = some (.slice q1 n1 c1)) (by kernel_rfl) ?_
  refine wpAnyH_take (i := 0) (v := .agg #[.slice q1 n1 c1]) rfl (by kernel_rfl) (by kernel_rfl) (by kernel_rfl) (fun _ _ _ h => h) (.inl ⟨by kernel_rfl, ?_⟩) b0.cell ?_
  · intro w h1; go_simp
  refine wpAnyH_take (i := 1) (v := .slice q n c) rfl (by kernel_rfl) (by kernel_rfl) (by kernel_rfl) (fun _ _ _ h => h) (.inl ⟨by kernel_rfl, ?_⟩) b0.cell ?_
  · intro w h1; go_simp
  refine pone 2 (by kernel_rfl) rfl fun K hK => ?_
  go_simp
  refine con.mono ?_
  rintro e W2 ⟨v2, rfl, hset2, hbel2⟩
  have hbel2' : Below W.heap.size W W2 := ⟨hbel2.os, hbel2.tape, hbel2.output, hbel2.size, hbel2.block⟩
  have k2 := Keep.of_below hbel2'
  have b02 := k2.boxed b0 b0.lt
  have b12 := k2.boxed b1 b1.lt
  have con3 := Join_any _ v2 xs (setI zs) W2 (hsW.below hbel2') hset2 hm1 (by omega)
  have hB2 := hBW.trans (hbel2'.mono hBW.size)
  refine hK _ _ b02.cell ?_
  clear hK K con hset2
  refine pone 3 (by kernel_rfl) rfl fun K hK => ?_
  go_simp
  refine con3.mono ?_
  rintro e W3 ⟨v3, rfl, hset3, hbel3⟩
  have k3 := Keep.of_below hbel3
  have b03 := k3.boxed b02 b02.lt
  have b13 := k3.boxed b12 b12.lt
  have hB3 := hB2.trans (hbel3.mono hB2.size)
  have hset4 := fun u' => hset3.set (u' := u') b13 (fun x h => by cases h)
  obtain ⟨q3, n3, c3, rfl, _⟩ := hset3
  have b14 := b13.set (.slice q3 n3 c3)
  have hset5 := hset4 (.slice q3 n3 c3)
  have hB4 := hB3.setCell (p := ⟨w.heap.size + 1, 0, none⟩) (Nat.le_succ _) (.slice q3 n3 c3)
  refine hK _ _ b03.cell ?_
  clear hK K con3 hbel3 hset4
  have cR := b13.cell
  have fR := b13.frozen
  have c0 : (W3.setCell ⟨w.heap.size + 1, 0, none⟩ (.slice q3 n3 c3)).cell? ⟨w.heap.size, 0, none⟩ = some (.slice q1 n1 c1) := (World.cell?_setCell_other _ _ _ _ (by simp)).trans b03.cell
  refine pone 4 (by kernel_rfl) rfl fun K hK => ?_
  go_simp
  refine hK _ _ c0 ?_
  clear hK K
  refine pdone (by kernel_rfl) ?_ _
  have cR' := b14.cell
  clear b14 b03 b13 cR fR c0 hzW hsW
  go_wp2
  exact bodyPost_ret (v := .agg #[.slice q3 n3 c3]) (by simp [results, Try.f11, go_sem, cR']) rfl ⟨_, rfl, hset5, hB4⟩

set_option maxRecDepth 100000 in
set_option maxHeartbeats 1000000 in
theorem Without_any (v : Value) (xs zs : List Int) (q : Option Addr) (n c : Nat) (w : World) (h : SetIs (Value.int .i64) w v xs) (hz : SlIn (Value.int .i64) w q n zs) (hq : q = none → c = 0) (hm : n ≤ 1099511627776) (hm1 : xs.length ≤ 1099511627776) :
    Calls Try.prog 12 #[v, .slice q n c] w fun e w' => ∃ v, e = .returned v ∧ SetIs (Value.int .i64) w' v (pickL [1] xs (setI zs)) ∧ Below w.heap.size w w' := by
  have hset := h
  obtain ⟨q1, n1, c1, rfl, hc1, hn1, hs1, hr1⟩ := h
  have hzl := hz.1
  have hsl := setI_length zs
  obtain ⟨W, hW⟩ : ∃ W, (w.alloc (.cells #[.slice q1 n1 c1] 25)).alloc (.cells #[.slice none 0 0] 25) = W := ⟨_, rfl⟩
  have hBW : Below w.heap.size w W := by rw [← hW]; exact ((Below.refl _ w).alloc (Nat.le_refl _) _).alloc (by simp) _
  have hsz : W.heap.size = w.heap.size + 2 := by rw [← hW]; simp
  have b0 : Boxed W w.heap.size 25 (.slice q1 n1 c1) := by rw [← hW]; exact (Boxed.new w _ _).alloc _
  have b1 : Boxed W (w.heap.size + 1) 25 (.slice none 0 0) := by
    rw [← hW]
    have := Boxed.new (w.alloc (.cells #[.slice q1 n1 c1] 25)) 25 (.slice none 0 0)
    rwa [World.size_alloc] at this
  have hzW := hz.below hBW hz.lt
  have hsW := hset.below hBW
  have HW := Lib.hid hW
  have HS := Lib.hid hsz
  clear hW hsz hz hset hs1
  have con := Of_any q n c zs W.drew hzW.drew hq hm
  go_enter Try.func12, Try.ntmps12
  go_wp2_with fail
  rw [HW.out]
  refine pregion_any (fun X => X.cell? ⟨w.heap.size, 0, none⟩ = some (.slice q1 n1 c1)) (by kernel_rfl) ?_
  refine wpAnyH_take (i := 0) (v := .agg #[.slice q1 n1 c1]) rfl (by kernel_rfl) (by kernel_rfl) (by kernel_rfl) (fun _ _ _ h => h) (.inl ⟨by kernel_rfl, ?_⟩) b0.cell ?_
  · intro w h1; go_simp
  refine wpAnyH_take (i := 1) (v := .slice q n c) rfl (by kernel_rfl) (by kernel_rfl) (by kernel_rfl) (fun _ _ _ h => h) (.inl ⟨by kernel_rfl, ?_⟩) b0.cell ?_
  · intro w h1; go_simp
  refine pone 2 (by kernel_rfl) rfl fun K hK => ?_
  go_simp
  refine con.mono ?_
  rintro e W2 ⟨v2, rfl, hset2, hbel2⟩
  have hbel2' : Below W.heap.size W W2 := ⟨hbel2.os, hbel2.tape, hbel2.output, hbel2.size, hbel2.block⟩
  have k2 := Keep.of_below hbel2'
  have b02 := k2.boxed b0 b0.lt
  have b12 := k2.boxed b1 b1.lt
  have con3 := Minus_any _ v2 xs (setI zs) W2 (hsW.below hbel2') hset2 hm1 (by omega)
  have hB2 := hBW.trans (hbel2'.mono hBW.size)
  refine hK _ _ b02.cell ?_
  clear hK K con hset2
  refine pone 3 (by kernel_rfl) rfl fun K hK => ?_
  go_simp
  refine con3.mono ?_
  rintro e W3 ⟨v3, rfl, hset3, hbel3⟩
  have k3 := Keep.of_below hbel3
  have b03 := k3.boxed b02 b02.lt
  have b13 := k3.boxed b12 b12.lt
  have hB3 := hB2.trans (hbel3.mono hB2.size)
  have hset4 := fun u' => hset3.set (u' := u') b13 (fun x h => by cases h)
  obtain ⟨q3, n3, c3, rfl, _⟩ := hset3
  have b14 := b13.set (.slice q3 n3 c3)
  have hset5 := hset4 (.slice q3 n3 c3)
  have hB4 := hB3.setCell (p := ⟨w.heap.size + 1, 0, none⟩) (Nat.le_succ _) (.slice q3 n3 c3)
  refine hK _ _ b03.cell ?_
  clear hK K con3 hbel3 hset4
  have cR := b13.cell
  have fR := b13.frozen
  have c0 : (W3.setCell ⟨w.heap.size + 1, 0, none⟩ (.slice q3 n3 c3)).cell? ⟨w.heap.size, 0, none⟩ = some (.slice q1 n1 c1) := (World.cell?_setCell_other _ _ _ _ (by simp)).trans b03.cell
  refine pone 4 (by kernel_rfl) rfl fun K hK => ?_
  go_simp
  refine hK _ _ c0 ?_
  clear hK K
  refine pdone (by kernel_rfl) ?_ _
  have cR' := b14.cell
  clear b14 b03 b13 cR fR c0 hzW hsW
  go_wp2
  exact bodyPost_ret (v := .agg #[.slice q3 n3 c3]) (by simp [results, Try.f12, go_sem, cR']) rfl ⟨_, rfl, hset5, hB4⟩

end Go.Proofs.Ythfclmnmnmeldaa
