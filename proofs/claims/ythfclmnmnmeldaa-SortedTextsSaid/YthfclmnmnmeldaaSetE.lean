/- package sorted: joins, meets, what is left. Conditions: sets of at most 2^40 values. -/
import Derived.Test.YthfclmnmnmeldaaSetD
namespace Go.Proofs.Ythfclmnmnmeldaa
open Go.RowKit Go.Shelf

theorem SetIs.below {α : Type} [LT α] {enc : α → Value} {w w' : World} {v : Value} {xs : List α} (h : SetIs enc w v xs) (hb : Below w.heap.size w w') : SetIs enc w' v xs := by
  obtain ⟨q, n, c, rfl, h1, h2, h3, h4⟩ := h
  exact ⟨q, n, c, rfl, h1, h2, h3.below hb h3.lt, h4⟩
theorem SetIs.rises {α : Type} [LT α] {enc : α → Value} {w : World} {v : Value} {xs : List α} (h : SetIs enc w v xs) : Rises xs := by
  obtain ⟨q, n, c, rfl, h1, h2, h3, h4⟩ := h
  exact h4
theorem SetIs.drewN {α : Type} [LT α] {enc : α → Value} {w : World} {v : Value} {xs : List α} (h : SetIs enc w v xs) (k : Nat) : SetIs enc (w.drewN k) v xs := h
theorem below_alloc {w : World} (o : Obj) : Below w.heap.size w (w.alloc o) := (Below.refl _ w).alloc (Nat.le_refl _) o

/-- A short row of places, made on the spot. -/
theorem places_new (W : World) (ws : List Nat) : SlIn encW (W.alloc (.cells (ws.map encW).toArray 59)) (some ⟨W.heap.size, 0, none⟩) ws.length ws := by
  refine ⟨rfl, fun _ => ⟨_, _, rfl, by simp, fun i x hx => ?_⟩⟩
  have := World.alloc_heap_new W (.cells (ws.map encW).toArray 59)
  simp only [World.cell?, this, Nat.zero_add]
  simp [hx]

set_option maxRecDepth 100000 in
set_option maxHeartbeats 1000000 in
theorem Join_any (v1 v2 : Value) (xs ys : List Int) (w : World) (h1 : SetIs (Value.int .i64) w v1 xs) (h2 : SetIs (Value.int .i64) w v2 ys) (hm1 : xs.length ≤ 1099511627776) (hm2 : ys.length ≤ 1099511627776) :
    Calls Try.prog 14 #[v1, v2] w fun e w' => ∃ v, e = .returned v ∧ SetIs (Value.int .i64) w' v (pickL [1, 2, 3] xs ys) ∧ Below w.heap.size w w' := by
  obtain ⟨q1, n1, c1, rfl, hc1, _, hs1, hr1⟩ := h1
  obtain ⟨q2, n2, c2, rfl, hc2, _, hs2, hr2⟩ := h2
  obtain rfl := hs1.1
  obtain rfl := hs2.1
  obtain ⟨W3, hW3⟩ : ∃ W3, ((w.alloc (.cells #[.slice q1 xs.length c1] 25)).alloc (.cells #[.slice q2 ys.length c2] 25)).alloc (.cells #[.slice none 0 0] 25) = W3 := ⟨_, rfl⟩
  have hB3 : Below w.heap.size w W3 := by rw [← hW3]; exact (((Below.refl _ w).alloc (Nat.le_refl _) _).alloc (by simp) _).alloc (by simp; omega) _
  have hsz : W3.heap.size = w.heap.size + 3 := by rw [← hW3]; simp
  have hbx : Boxed W3 (w.heap.size + 1 + 1) 25 (.slice none 0 0) := by
    rw [← hW3]
    have := Boxed.new ((w.alloc (.cells #[.slice q1 xs.length c1] 25)).alloc (.cells #[.slice q2 ys.length c2] 25)) 25 (.slice none 0 0)
    rwa [World.size_alloc, World.size_alloc] at this
  have g1 := hs1.below hB3 hs1.lt
  have g2 := hs2.below hB3 hs2.lt
  have con := pick_any q1 q2 (some ⟨W3.heap.size, 0, none⟩) xs.length c1 ys.length c2 3 3 xs ys [1, 2, 3] (W3.alloc (.cells #[.int .u8 1, .int .u8 2, .int .u8 3] 59)) hc1 hc2 hm1 hm2 (by omega) (g1.alloc _) (g2.alloc _) (places_new W3 [1, 2, 3])
  have hbx4 := hbx.alloc (.cells #[.int .u8 1, .int .u8 2, .int .u8 3] 59)
  have hB4 := hB3.alloc hB3.size (.cells #[.int .u8 1, .int .u8 2, .int .u8 3] 59)
  have hpl : (pickL [1, 2, 3] xs ys).length ≤ 2199023255552 := Nat.le_trans (picked_length _ _) (Nat.le_trans (mrg_length xs ys) (by omega))
  have HR := Lib.hid (pickL_rises [1, 2, 3] xs ys hr1 hr2)
  have hz4 : (W3.alloc (.cells #[.int .u8 1, .int .u8 2, .int .u8 3] 59)).heap.size = w.heap.size + 4 := by simp [hsz]
  generalize pickL [1, 2, 3] xs ys = zs at con hpl HR ⊢
  clear hs1 hs2 hr1 hr2 g1 g2 hbx hB3
  have HZ := Lib.hid hz4
  clear hz4
  have HS := Lib.hid hsz
  clear hsz
  have HW3 := Lib.hid hW3
  clear hW3
  go_enter Try.func14, Try.ntmps14
  go_wp2_with fail
  rw [HW3.out]
  have HS' : w.heap.size + 1 + 1 + 1 = W3.heap.size := by rw [HS.out]
  rw [HS']
  clear HS'
  refine con.mono ?_
  rintro e w' ⟨q, c, rfl, hnc, hsl, hqb, hbel⟩
  have hbr := (Keep.of_below hbel).boxed hbx4 (by rw [HZ.out]; omega)
  have cR := hbr.cell
  have fR := hbr.frozen
  have hsz' := hbel.size
  have hB5 := hB4.trans (hbel.mono (by rw [HZ.out]; omega))
  go_wp2
  have hbr2 := (hbr.set (.slice q zs.length c)).cell
  refine bodyPost_ret (v := .agg #[.slice q zs.length c]) (by simp [results, Try.f14, go_sem, hbr2]) rfl ⟨_, rfl, ⟨q, zs.length, c, rfl, hnc, by omega, ?_, HR.out⟩, ?_⟩
  · exact hsl.keep (Keep.setCell (S := fun b => w.heap.size + 4 ≤ b) _ _ _ (by simp)) fun a h _ => by have := hqb a h; rw [HZ.out] at this; exact this
  · exact hB5.setCell (by simp; omega) _

set_option maxRecDepth 100000 in
set_option maxHeartbeats 1000000 in
theorem Meet_any (v1 v2 : Value) (xs ys : List Int) (w : World) (h1 : SetIs (Value.int .i64) w v1 xs) (h2 : SetIs (Value.int .i64) w v2 ys) (hm1 : xs.length ≤ 1099511627776) (hm2 : ys.length ≤ 1099511627776) :
    Calls Try.prog 15 #[v1, v2] w fun e w' => ∃ v, e = .returned v ∧ SetIs (Value.int .i64) w' v (pickL [3] xs ys) ∧ Below w.heap.size w w' := by
  obtain ⟨q1, n1, c1, rfl, hc1, _, hs1, hr1⟩ := h1
  obtain ⟨q2, n2, c2, rfl, hc2, _, hs2, hr2⟩ := h2
  obtain rfl := hs1.1
  obtain rfl := hs2.1
  obtain ⟨W3, hW3⟩ : ∃ W3, ((w.alloc (.cells #[.slice q1 xs.length c1] 25)).alloc (.cells #[.slice q2 ys.length c2] 25)).alloc (.cells #[.slice none 0 0] 25) = W3 := ⟨_, rfl⟩
  have hB3 : Below w.heap.size w W3 := by rw [← hW3]; exact (((Below.refl _ w).alloc (Nat.le_refl _) _).alloc (by simp) _).alloc (by simp; omega) _
  have hsz : W3.heap.size = w.heap.size + 3 := by rw [← hW3]; simp
  have hbx : Boxed W3 (w.heap.size + 1 + 1) 25 (.slice none 0 0) := by
    rw [← hW3]
    have := Boxed.new ((w.alloc (.cells #[.slice q1 xs.length c1] 25)).alloc (.cells #[.slice q2 ys.length c2] 25)) 25 (.slice none 0 0)
    rwa [World.size_alloc, World.size_alloc] at this
  have g1 := hs1.below hB3 hs1.lt
  have g2 := hs2.below hB3 hs2.lt
  have con := pick_any q1 q2 (some ⟨W3.heap.size, 0, none⟩) xs.length c1 ys.length c2 1 1 xs ys [3] (W3.alloc (.cells #[.int .u8 3] 59)) hc1 hc2 hm1 hm2 (by omega) (g1.alloc _) (g2.alloc _) (places_new W3 [3])
  have hbx4 := hbx.alloc (.cells #[.int .u8 3] 59)
  have hB4 := hB3.alloc hB3.size (.cells #[.int .u8 3] 59)
  have hpl : (pickL [3] xs ys).length ≤ 2199023255552 := Nat.le_trans (picked_length _ _) (Nat.le_trans (mrg_length xs ys) (by omega))
  have HR := Lib.hid (pickL_rises [3] xs ys hr1 hr2)
  have hz4 : (W3.alloc (.cells #[.int .u8 3] 59)).heap.size = w.heap.size + 4 := by simp [hsz]
  generalize pickL [3] xs ys = zs at con hpl HR ⊢
  clear hs1 hs2 hr1 hr2 g1 g2 hbx hB3
  have HZ := Lib.hid hz4
  clear hz4
  have HS := Lib.hid hsz
  clear hsz
  have HW3 := Lib.hid hW3
  clear hW3
  go_enter Try.func15, Try.ntmps15
  go_wp2_with fail
  rw [HW3.out]
  have HS' : w.heap.size + 1 + 1 + 1 = W3.heap.size := by rw [HS.out]
  rw [HS']
  clear HS'
  refine con.mono ?_
  rintro e w' ⟨q, c, rfl, hnc, hsl, hqb, hbel⟩
  have hbr := (Keep.of_below hbel).boxed hbx4 (by rw [HZ.out]; omega)
  have cR := hbr.cell
  have fR := hbr.frozen
  have hsz' := hbel.size
  have hB5 := hB4.trans (hbel.mono (by rw [HZ.out]; omega))
  go_wp2
  have hbr2 := (hbr.set (.slice q zs.length c)).cell
  refine bodyPost_ret (v := .agg #[.slice q zs.length c]) (by simp [results, Try.f15, go_sem, hbr2]) rfl ⟨_, rfl, ⟨q, zs.length, c, rfl, hnc, by omega, ?_, HR.out⟩, ?_⟩
  · exact hsl.keep (Keep.setCell (S := fun b => w.heap.size + 4 ≤ b) _ _ _ (by simp)) fun a h _ => by have := hqb a h; rw [HZ.out] at this; exact this
  · exact hB5.setCell (by simp; omega) _

set_option maxRecDepth 100000 in
set_option maxHeartbeats 1000000 in
theorem Minus_any (v1 v2 : Value) (xs ys : List Int) (w : World) (h1 : SetIs (Value.int .i64) w v1 xs) (h2 : SetIs (Value.int .i64) w v2 ys) (hm1 : xs.length ≤ 1099511627776) (hm2 : ys.length ≤ 1099511627776) :
    Calls Try.prog 16 #[v1, v2] w fun e w' => ∃ v, e = .returned v ∧ SetIs (Value.int .i64) w' v (pickL [1] xs ys) ∧ Below w.heap.size w w' := by
  obtain ⟨q1, n1, c1, rfl, hc1, _, hs1, hr1⟩ := h1
  obtain ⟨q2, n2, c2, rfl, hc2, _, hs2, hr2⟩ := h2
  obtain rfl := hs1.1
  obtain rfl := hs2.1
  obtain ⟨W3, hW3⟩ : ∃ W3, ((w.alloc (.cells #[.slice q1 xs.length c1] 25)).alloc (.cells #[.slice q2 ys.length c2] 25)).alloc (.cells #[.slice none 0 0] 25) = W3 := ⟨_, rfl⟩
  have hB3 : Below w.heap.size w W3 := by rw [← hW3]; exact (((Below.refl _ w).alloc (Nat.le_refl _) _).alloc (by simp) _).alloc (by simp; omega) _
  have hsz : W3.heap.size = w.heap.size + 3 := by rw [← hW3]; simp
  have hbx : Boxed W3 (w.heap.size + 1 + 1) 25 (.slice none 0 0) := by
    rw [← hW3]
    have := Boxed.new ((w.alloc (.cells #[.slice q1 xs.length c1] 25)).alloc (.cells #[.slice q2 ys.length c2] 25)) 25 (.slice none 0 0)
    rwa [World.size_alloc, World.size_alloc] at this
  have g1 := hs1.below hB3 hs1.lt
  have g2 := hs2.below hB3 hs2.lt
  have con := pick_any q1 q2 (some ⟨W3.heap.size, 0, none⟩) xs.length c1 ys.length c2 1 1 xs ys [1] (W3.alloc (.cells #[.int .u8 1] 59)) hc1 hc2 hm1 hm2 (by omega) (g1.alloc _) (g2.alloc _) (places_new W3 [1])
  have hbx4 := hbx.alloc (.cells #[.int .u8 1] 59)
  have hB4 := hB3.alloc hB3.size (.cells #[.int .u8 1] 59)
  have hpl : (pickL [1] xs ys).length ≤ 2199023255552 := Nat.le_trans (picked_length _ _) (Nat.le_trans (mrg_length xs ys) (by omega))
  have HR := Lib.hid (pickL_rises [1] xs ys hr1 hr2)
  have hz4 : (W3.alloc (.cells #[.int .u8 1] 59)).heap.size = w.heap.size + 4 := by simp [hsz]
  generalize pickL [1] xs ys = zs at con hpl HR ⊢
  clear hs1 hs2 hr1 hr2 g1 g2 hbx hB3
  have HZ := Lib.hid hz4
  clear hz4
  have HS := Lib.hid hsz
  clear hsz
  have HW3 := Lib.hid hW3
  clear hW3
  go_enter Try.func16, Try.ntmps16
  go_wp2_with fail
  rw [HW3.out]
  have HS' : w.heap.size + 1 + 1 + 1 = W3.heap.size := by rw [HS.out]
  rw [HS']
  clear HS'
  refine con.mono ?_
  rintro e w' ⟨q, c, rfl, hnc, hsl, hqb, hbel⟩
  have hbr := (Keep.of_below hbel).boxed hbx4 (by rw [HZ.out]; omega)
  have cR := hbr.cell
  have fR := hbr.frozen
  have hsz' := hbel.size
  have hB5 := hB4.trans (hbel.mono (by rw [HZ.out]; omega))
  go_wp2
  have hbr2 := (hbr.set (.slice q zs.length c)).cell
  refine bodyPost_ret (v := .agg #[.slice q zs.length c]) (by simp [results, Try.f16, go_sem, hbr2]) rfl ⟨_, rfl, ⟨q, zs.length, c, rfl, hnc, by omega, ?_, HR.out⟩, ?_⟩
  · exact hsl.keep (Keep.setCell (S := fun b => w.heap.size + 4 ≤ b) _ _ _ (by simp)) fun a h _ => by have := hqb a h; rw [HZ.out] at this; exact this
  · exact hB5.setCell (by simp; omega) _

end Go.Proofs.Ythfclmnmnmeldaa
