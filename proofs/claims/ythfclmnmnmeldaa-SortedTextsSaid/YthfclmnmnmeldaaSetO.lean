/- The law's own helper same, at a set and a row of the same values; and lives. Conditions: at most 2^40 values. -/
import Derived.Test.YthfclmnmnmeldaaSetL
namespace Go.Proofs.Ythfclmnmnmeldaa
open Go.RowKit Go.Shelf

theorem atL_in (xs : List Int) (k : Nat) (x : Int) (h : xs[k]? = some x) : atL xs (k : Int) = some x := by unfold atL; rw [if_pos (by omega)]; simpa using h
theorem atL_end (xs : List Int) : atL xs (xs.length : Int) = none := by unfold atL; rw [if_pos (by omega)]; simp

set_option maxRecDepth 100000 in
set_option maxHeartbeats 4000000 in
theorem same_any (v : Value) (q : Option Addr) (n c : Nat) (xs : List Int) (w : World) (h : SetIs (Value.int .i64) w v xs) (hl : SlIn (Value.int .i64) w q n xs) (hm : n ≤ 1099511627776) :
    Calls Try.prog 10 #[v, .slice q n c] w fun e w' => e = .returned (.bool true) ∧ Below w.heap.size w w' := by
  have hset := h
  obtain ⟨q1, n1, c1, rfl, hc1, hn1, hs1, hr1⟩ := h
  obtain rfl := hl.1
  clear hs1 hr1 hc1 hn1
  have hset1 := hset.below (below_alloc (.cells #[.slice q1 n1 c1] 25))
  have hl1 := hl.alloc (.cells #[.slice q1 n1 c1] 25)
  have b0 := Boxed.new w 25 (.slice q1 n1 c1)
  have hB1 := below_alloc (w := w) (.cells #[.slice q1 n1 c1] 25)
  have conA := All_any _ xs _ hset1
  obtain ⟨W, hW⟩ : ∃ W, w.alloc (.cells #[.slice q1 n1 c1] 25) = W := ⟨_, rfl⟩
  rw [hW] at hset1 hl1 b0 hB1 conA
  have HW := Lib.hid hW
  clear hW hset hl
  go_enter Try.func10, Try.ntmps10
  go_wp2_with fail
  rw [HW.out]
  refine conA.mono ?_
  rintro e w1 ⟨qa, ca, rfl, hca, hna, hsa, ba, hsza, hbela⟩
  have hset2 := hset1.below hbela
  have hl2 := hl1.below hbela hl1.lt
  have b02 := (Keep.of_below hbela).boxed b0 b0.lt
  have hB2 := hB1.trans (hbela.mono hB1.size)
  have conB := all_any 60 #[.pointer (some ⟨W.heap.size + 1, 0, none⟩)] xs (fun b => b < w1.heap.size) w1 (enters_of Try.func60 (by kernel_rfl) rfl)
    (All1_iter (W.heap.size + 1) qa xs.length ca xs (fun b => b < w1.heap.size) w1 hna hsa (fun a h h' => hsa.lt a h h') ba (by omega)) (fun b h => h) hm
  clear conA hset1 hl1 b0 hB1 hbela hsa ba
  go_wp2_with fail
  refine conB.mono ?_
  rintro e w2 ⟨vx, rfl, hrow, hbelb⟩
  obtain ⟨qx, cx, rfl, hcx, _, hsx, _⟩ := slIn_of_owns hrow
  have hset3 := hset2.below hbelb
  have hl3 := hl2.below hbelb hl2.lt
  have b03 := (Keep.of_below hbelb).boxed b02 b02.lt
  have hB3 := hB2.trans (hbelb.mono hB2.size)
  have conL := Len_any _ xs w2 hset3
  clear conB hset2 hl2 b02 hB2 hbelb hrow
  have c03 := b03.cell
  go_wp2_with fail
  refine conL.mono ?_
  rintro e w3 ⟨rfl, hbelc⟩
  have hset4 := hset3.below hbelc
  have hl4 := hl3.below hbelc hl3.lt
  have hsx4 := hsx.below hbelc hsx.lt
  have b04 := (Keep.of_below hbelc).boxed b03 b03.lt
  have hB4 := hB3.trans (hbelc.mono hB3.size)
  clear conL hset3 hl3 b03 hB3 hbelc hsx c03
  have hlt0 := b04.lt
  go_wp2
  go_loopw [36] (fun i wr => ∃ k : Nat, k ≤ xs.length ∧ i = .int .i64 k ∧ Below w3.heap.size w3 wr) (fun i _ => xs.length - (intOf i).toNat)
  case atStart => exact ⟨0, Nat.zero_le _, rfl, Below.refl _ _⟩
  case round =>
    obtain ⟨k, hk, rfl, hbr⟩ := hrel
    have cr := ((Keep.of_below hbr).boxed b04 b04.lt).cell
    have hset5 := hset4.below hbr
    have hl5 := hl4.below hbr hl4.lt
    have hsx5 := hsx4.below hbr hsx4.lt
    have conT := At_any _ xs k wr hset5
    by_cases hlt : k < xs.length
    · obtain ⟨x, hx, _⟩ := drop_getElem xs k hlt
      rw [atL_in xs k x hx] at conT
      obtain ⟨bl, ol, rfl, hbl, hcl⟩ := hl5.at (by omega)
      obtain ⟨bx, ox, rfl, hbx, hcx2⟩ := hsx5.at (by omega)
      have ckl := hcl k x hx
      have ckx := hcx2 k x hx
      clear hcl hcx2 hx hset5 hl5 hsx5
      go_wp2_with fail
      refine conT.mono ?_
      rintro e w5 ⟨rfl, hbe⟩
      have ckl' := (World.cell?_of_block (a := ⟨bl, ol + k, none⟩) (hbe.block bl hbl)).trans ckl
      have ckx' := (World.cell?_of_block (a := ⟨bx, ox + k, none⟩) (hbe.block bx hbx)).trans ckx
      have hb6 : Below w3.heap.size w3 w5 := hbr.trans (hbe.mono hbr.size)
      clear conT ckl ckx
      go_wp2_with (go_quiet (fail))
      go_roundw
      case rel => exact ⟨k + 1, by omega, by go_num, hb6.trans ⟨rfl, rfl, rfl, Nat.le_refl _, fun _ _ => rfl⟩⟩
      case measure => simp [intOf]; omega
    · obtain rfl : k = xs.length := by omega
      rw [atL_end xs] at conT
      clear hset5 hl5 hsx5
      go_wp2_with fail
      refine conT.mono ?_
      rintro e w5 ⟨rfl, hbe⟩
      have hb6 : Below w.heap.size w w5 := hB4.trans ((hbr.trans (hbe.mono hbr.size)).mono hB4.size)
      go_wp2
      go_ret
      exact ⟨rfl, hb6⟩

/-- A short row, made on the spot. -/
theorem row_new {α : Type} (enc : α → Value) (ty : TypeId) (W : World) (l : List α) : SlIn enc (W.alloc (.cells (l.map enc).toArray ty)) (some ⟨W.heap.size, 0, none⟩) l.length l := by
  refine ⟨rfl, fun _ => ⟨_, _, rfl, by simp, fun i x hx => ?_⟩⟩
  have := World.alloc_heap_new W (.cells (l.map enc).toArray ty)
  simp only [World.cell?, this, Nat.zero_add]
  simp [hx]

theorem setI_lives : setI [3, 1, 3] = [1, 3] := by
  refine rises_ext (setI_rises _) (by unfold Rises; simp) fun a => ?_
  rw [mem_setI]; simp; omega

set_option maxRecDepth 100000 in
theorem lives_any (w : World) : Calls Try.prog 7 #[] w fun e w' => e = .returned (.bool true) ∧ Below w.heap.size w w' := by
  have con1 := Of_any (some ⟨w.heap.size, 0, none⟩) 3 3 [3, 1, 3] _ (row_new (Value.int .i64) 3 w [3, 1, 3]) (fun h => by cases h) (by omega)
  rw [setI_lives] at con1
  go_enter Try.func7, Try.ntmps7
  go_wp2_with fail
  refine con1.mono ?_
  rintro e w1 ⟨v, rfl, hset, hb⟩
  have hb1 : Below w.heap.size w w1 := (below_alloc _).trans (hb.mono (by simp))
  have con2 := same_any v (some ⟨w1.heap.size, 0, none⟩) 2 2 [1, 3] _ (hset.below (below_alloc (.cells #[.int .i64 1, .int .i64 3] 3))) (row_new (Value.int .i64) 3 w1 [1, 3]) (by omega)
  clear con1 hset hb
  go_wp2_with fail
  refine con2.mono ?_
  rintro e w2 ⟨rfl, hb⟩
  go_wp2
  go_ret
  exact ⟨rfl, hb1.trans ((below_alloc _).trans (hb.mono (by simp)) |>.mono hb1.size)⟩

end Go.Proofs.Ythfclmnmnmeldaa
