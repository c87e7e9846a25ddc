/- The texts that these laws rest on, put together, part 2. Conditions: as each says. -/
import Derived.Test.YtdbpbfbjebjbeaaDoorBaseA
import Derived.Lib.SlBytesConst
import Derived.Lib.SmallJoins
import Derived.Lib.IndexMore
import Derived.Lib.AppendZerosOnto
import Derived.Laws.AppendOwn
import Derived.Lib.ConvBytes
import Derived.Laws.ResultCell
import Derived.Laws.Rows

namespace Go.Proofs.YtdbpbfbjebjbeaaDoor.Pct
open Go.RowKit Go.Shelf
attribute [local go_sem] Oper.semAt_some

theorem grown_keep {W w1 : World} {n₀ B : Nat} {t e : TypeId} {size : Nat} {v v' : Value} {k m : Nat} {xs ys : List Value} {S : Nat → Prop}
    (hv : Boxed W B t v) (hte : t ≠ e) (hrow : W.ownsRow n₀ e size v k xs) (hS : ¬ S B) (hSo : ∀ b, v.ownBlock = some b → ¬ S b) (hown' : w1.ownsRow n₀ e size v' m ys) (hG : Grown W v w1 v') :
    Boxed w1 B t v ∧ Boxed (w1.setCell ⟨B, 0, none⟩ v') B t v' ∧ (w1.setCell ⟨B, 0, none⟩ v').ownsRow n₀ e size v' m ys ∧ Keep S W (w1.setCell ⟨B, 0, none⟩ v') := by
  have hv1 : Boxed w1 B t v := (hG.1 (fun b => v.ownBlock ≠ some b) (fun b hb h => h hb)).boxed hv (hv.not_row hte hrow).symm
  exact ⟨hv1, hv1.set v', hown'.kept (grownBy_setCell' w1 B v') (.inr (hv1.not_row hte hown').symm), (hG.1 S hSo).trans (Keep.setCell _ _ _ hS)⟩
theorem can_one (p : Int) (pre : List (UInt8 × Bool)) (x : UInt8) (cd : Bool) : canL p (pre ++ [(x, cd)]) = canL p pre ++ putL (canB p (x, cd)) x := by
  simp [canL]

set_option maxRecDepth 100000 in
set_option maxHeartbeats 4000000 in
theorem Canon_any (q : Option Addr) (n c : Nat) (l : List UInt8) (p : Int) (w : World) (hl : l.length = n) (hn : n ≤ 274877906944) (hb : Lib.BytesIn w q n (Lib.numsL l)) :
    Calls Tryd.prog 37 #[.slice q n c, .int .i64 p] w fun e w' => TextPost ((itemsL l).map (canL p)) w e w' := by
  obtain ⟨i0, hi0, hz0, hz1, hz2⟩ := info_parts info_u8
  obtain ⟨Wp, hWp⟩ : ∃ Wp, w.alloc (.cells #[.int .i64 p] 62) = Wp := ⟨_, rfl⟩
  have hbp : Boxed Wp w.heap.size 62 (.int .i64 p) := by rw [← hWp]; exact Boxed.new w _ _
  have hkp : ∀ S, Keep S w Wp := fun S => by rw [← hWp]; exact Keep.alloc S w _
  have hsp : Wp.heap.size = w.heap.size + 1 := by rw [← hWp]; simp
  have hql := bytes_lt hb
  replace hb := bytes_keep hb (hkp (fun _ => True)) (fun _ _ _ => trivial)
  have con := whole_any q n c l Wp hl (by omega) hb
  have HWp := Lib.hid hWp
  clear hWp
  refine (callsIn_wide (n := 1)).1 ?_
  refine callsIn_of_wp_marks Tryd.func37 rfl trivial ?_ rfl
  simp only [Tryd.ntmps37, List.size_toArray, List.length_cons, List.length_nil, Nat.reduceAdd, Nat.reduceSub, Array.replicate_succ, Array.replicate_zero, List.push_toArray, List.append_toArray, List.nil_append, List.cons_append]
  cases hw : wholeL l with
  | false =>
    have hi := whole_none l hw
    rw [hw] at con
    have HI := Lib.hid hi
    clear hi hw hl hb
    have hBp := (hkp (fun b => b < w.heap.size)).below (Nat.le_refl _)
    clear hsp hkp
    gi_wp2_with fail
    rw [HWp.out]
    refine ⟨trivial, (callsIn_wide.2 con).mono ?_⟩
    rintro e w' ⟨rfl, rfl⟩
    clear con hql
    gi_wp2
    refine ⟨_, results_tmp2 rfl _ _ _, .slice none 0 0, 2, rfl, Lib.hid (by rw [HI.out]; rfl), ?_, hBp⟩
    rw [HI.out]
    exact World.ownsRow_nil _ _ _ _
  | true =>
    obtain ⟨m, hm⟩ := whole_some l hw
    rw [hw] at con
    have hml : m.length ≤ n := by have := items_len l m hm; omega
    obtain ⟨w1, hrun, hown, hgrow⟩ := run_make_own (P := Tryd.prog) (w := Wp) (w.heap.size + 1) 22 5 i0 (.int .u8 0) 1 Tryd.underlying22 hi0 hz0 hz1 .i64 .i64 n (by rw [hz2]; omega) (by unfold maxLen; omega) (by omega)
    have hk1 : ∀ S, Keep S Wp w1 := fun S => Keep.of_grownBy hgrow (fun r h => by cases h)
    have hw1 : w.heap.size + 1 < w1.heap.size := by have := (hown.lt Wp.heap.size rfl).2; omega
    rw [hsp] at hown hrun
    obtain ⟨W1, hW1⟩ : ∃ W1, w1.alloc (.cells #[.slice (some ⟨w.heap.size + 1, 0, none⟩) 0 n] 22) = W1 := ⟨_, rfl⟩
    have hs1 : W1.heap.size = w1.heap.size + 1 := by rw [← hW1]; simp
    have b0 : Boxed (W1.alloc (.cells #[.slice q n c] 22)) w1.heap.size 22 (.slice (some ⟨w.heap.size + 1, 0, none⟩) 0 n) := by rw [← hW1]; exact (Boxed.new w1 _ _).alloc _
    have b1 := Boxed.new W1 22 (.slice q n c)
    have own0 : (W1.alloc (.cells #[.slice q n c] 22)).ownsRow (w.heap.size + 1) 5 1 (.slice (some ⟨w.heap.size + 1, 0, none⟩) 0 n) 0 [] := by rw [← hW1]; exact (hown.alloc _).alloc _
    have hk0 : ∀ S, Keep S Wp (W1.alloc (.cells #[.slice q n c] 22)) := fun S => by rw [← hW1]; exact (hk1 S).trans ((Keep.alloc S w1 _).trans (Keep.alloc S _ _))
    have hs0 : (W1.alloc (.cells #[.slice q n c] 22)).heap.size = w1.heap.size + 2 := by simp; omega
    have con2 := meant_any q n c W1
    have hb0 := bytes_keep hb (hk0 (fun _ => True)) (fun _ _ _ => trivial)
    have HM := Lib.hid hm
    have HL := Lib.hid hl
    have HW1 := Lib.hid hW1
    have HS1 := Lib.hid hs1
    have HS0 := Lib.hid hs0
    have HSP := Lib.hid hsp
    clear hm hw hl hgrow hown hk1 hW1 hs1 hs0 hb hsp
    gi_wp2_with fail
    rw [HWp.out]
    refine ⟨trivial, (callsIn_wide.2 con).mono ?_⟩
    rintro e w' ⟨rfl, rfl⟩
    clear con
    gi_wp2_with fail
    rw [HW1.out]
    refine ⟨trivial, (callsIn_wide.2 con2).mono ?_⟩
    rintro e W0 ⟨rfl, hW0⟩
    rw [← hW0] at b0 b1 own0 hk0 hb0 HS0
    clear con2 hW0 hrun
    gi_wp2
    have hs1 := HS1.out
    have hs0 := HS0.out
    replace hbp := (hk0 (fun _ => True)).boxed hbp trivial
    rw [hs1] at b1
    obtain ⟨RB, hRB⟩ : ∃ RB : Nat → Prop, RB = fun b => b < w.heap.size + 1 ∨ b = w1.heap.size + 1 := ⟨_, rfl⟩
    have hRl : ∀ b, RB b → b < W0.heap.size := fun b hb => by rw [hRB] at hb; rcases hb with h | h <;> omega
    have hRo : ∀ b, b < w.heap.size + 1 → RB b := fun b hb => by rw [hRB]; exact .inl hb
    have hRi : RB (w1.heap.size + 1) := by rw [hRB]; exact .inr rfl
    have hRn : ¬ RB w1.heap.size := fun hb => by rw [hRB] at hb; rcases hb with h | h <;> omega
    have hRr : ∀ b, RB b → w.heap.size + 1 ≤ b → b = w1.heap.size + 1 := fun b hb h => by rw [hRB] at hb; rcases hb with h' | h'; omega; exact h'
    clear hRB
    rw [hs1]
    clear hs1 HS1
    refine rf_law (gf := 84) (lb := #[.pointer (some ⟨w1.heap.size + 1, 0, none⟩)]) rfl (enters_of Tryd.func84 (by kernel_rfl) rfl)
      (meant1_iter (w1.heap.size + 1) q n c l m RB W0 HL.out (by omega) HM.out hb0 (fun a ha h0 => hRo _ (by have := hql a ha h0; omega)) b1 hRi) (Keep.refl _ _) hRl (fun x args G W h => by rw [h.1]; rfl)
      (CollI (canL p) (w.heap.size + 1) w1.heap.size RB W0) (fun _ _ _ _ => False) (CollI_abide _ _ _ _ _ (by omega) hRl) (fun _ _ _ _ _ _ h _ _ => h)
      ⟨_, b0, own0, (fun _ h => h.elim), (fun _ _ h => h), Keep.refl _ _⟩ ?round ?done ?stop
    case round =>
      rintro ll pre ⟨x, cd⟩ rest Pv G args Wr hll hxs ⟨v, hbx, hrow, hge, hnv, hKW⟩ hPl hGl hPb hGP ⟨rfl, rfl⟩
      have hpl : (canL p pre).length ≤ 70368744177664 := by
        have h1 : pre.length + rest.length + 1 = m.length := by rw [hxs]; simp; omega
        have h2 := can_len p pre
        omega
      have hxx := u8_lt x
      clear b0 own0 hb0 hxs
      gi_wp2
      refine ⟨Keep.refl _ _, fun W2 hk2 hs2 r hr => ?_⟩
      have hnP : ∀ b, b < W0.heap.size → ¬ Pv b := fun b hb h => by have := hge b h; omega
      have hk2' : Keep (fun b => ¬ Pv b) Wr W2 := hk2.mono fun b _ hb h => hb (h ▸ hPl)
      replace hbx := hk2'.boxed hbx (hnP _ (by omega))
      replace hrow := hk2'.row hrow hnv
      have hK2 : Keep RB W0 W2 := hKW.trans (hk2'.mono fun b _ hb => hnP b (hRl b hb))
      have hPl2 : ∀ b, Pv b → b < W2.heap.size := fun b hb => by rw [hs2]; exact hPb b hb
      have hvn : ∀ b, v.ownBlock = some b → ¬ (RB b ∨ Pv b) := fun b hb h => by
        rcases h with h | h
        · have h1 := hrow.lt b hb
          have h2 := hRr b h h1.1
          rw [h2] at hb
          exact (hK2.boxed b1 hRi).not_row (by decide) hrow hb.symm
        · exact hnv b hb h
      clear hk2 hk2' hs2 hr hKW
      obtain ⟨Wd, hWd⟩ : ∃ Wd, W2.drew = Wd := ⟨_, rfl⟩
      have hkd : ∀ S, Keep S W2 Wd := fun S => by rw [← hWd]; exact Keep.drew S W2
      replace hbx := (hkd (fun _ => True)).boxed hbx trivial
      replace hrow := (hkd (fun _ => True)).row hrow (fun _ _ => trivial)
      have hKd := hK2.trans (hkd RB)
      replace hPl2 : ∀ b, Pv b → b < Wd.heap.size := fun b hb => by rw [← hWd]; exact hPl2 b hb
      replace hbp := hKd.boxed hbp (hRo _ (by omega))
      have cB := hbx.cell
      have hS := hbp.cell
      have hszW := hKd.size
      have hwW : w.heap.size + 1 ≤ Wd.heap.size := by omega
      have HWd := Lib.hid hWd
      have c1 := isFree_any x
      have c2 := stands_any x p
      have c3 := fun s => appendByte_any (w.heap.size + 1) v (canL p pre) x s Wd hrow hwW hpl
      obtain ⟨z1, H1⟩ : ∃ z, Hid (freeB x = z) := ⟨_, rfl⟩
      obtain ⟨z2, H2⟩ : ∃ z, Hid (standsB p x = z) := ⟨_, rfl⟩
      rw [H1.out] at c1
      rw [H2.out] at c2
      have hcb : canB p (x, cd) = (z1 || (!cd && z2)) := by unfold canB; rw [H1.out, H2.out]
      clear hWd H1 H2
      gi_wp2_with fail
      refine region_any (fun X => X.cell? ⟨w.heap.size, 0, none⟩ = some (.int .i64 p)) (by kernel_rfl) ?_
      rw [HWd.out]
      cases z1
      · cases cd
        · have HC := Lib.hid (show canB p (x, false) = z2 by rw [hcb]; rfl)
          clear hcb
          refine anyC_take 1 (v := (.int .u8 (x.toNat : Int))) rfl (by kernel_rfl) (by kernel_rfl) (by kernel_rfl) (by kernel_rfl) (fun _ _ _ h => h) (.inl ⟨by rfl, fun X hX => ⟨fun _ _ => trivial, .inl ?_⟩⟩) hS ?_
          · go_simp
          simp only [Act.put, List.getElem_toArray, List.getElem_cons_zero, List.getElem_cons_succ, List.setIfInBounds_toArray, List.set_cons_zero, List.set_cons_succ]
          refine anyH_list #[false, true, false, false, false, false, false, false, false, false, false, false, false, false, false] (by kernel_rfl) ?_
          refine anyC_take 2 (v := (.int .u8 (x.toNat : Int))) rfl (by kernel_rfl) (by kernel_rfl) (by kernel_rfl) (by kernel_rfl) (fun _ _ _ h => h) (.inl ⟨by rfl, fun X hX => ⟨fun _ _ => trivial, .inl ?_⟩⟩) hS ?_
          · go_simp
          simp only [Act.put, List.getElem_toArray, List.getElem_cons_zero, List.getElem_cons_succ, List.setIfInBounds_toArray, List.set_cons_zero, List.set_cons_succ]
          refine anyH_list #[false, true, true, false, false, false, false, false, false, false, false, false, false, false, false] (by kernel_rfl) ?_
          refine anyC_take 3 (v := (.bool false)) rfl (by kernel_rfl) (by kernel_rfl) (by kernel_rfl) (by kernel_rfl) (fun _ _ _ h => h) (.inl ⟨by rfl, fun X hX => ⟨fun _ _ => trivial, .inr ⟨61, #[.int .u8 (x.toNat : Int)], ?_, (fun h => by cases h), (CallsIn.inRound ll (callsIn_wide.2 (c1 X))).mono (fun _ _ h => ⟨h.1, h.2.symm⟩)⟩⟩⟩) hS ?_
          · go_simp
          simp only [Act.put, List.getElem_toArray, List.getElem_cons_zero, List.getElem_cons_succ, List.setIfInBounds_toArray, List.set_cons_zero, List.set_cons_succ]
          refine anyH_list #[false, true, true, true, false, false, false, false, false, false, false, false, false, false, false] (by kernel_rfl) ?_
          refine anyC_take 4 (v := (.bool false)) rfl (by kernel_rfl) (by kernel_rfl) (by kernel_rfl) (by kernel_rfl) (fun _ _ _ h => h) (.inl ⟨by rfl, fun X hX => ⟨fun _ _ => trivial, .inl ?_⟩⟩) hS ?_
          · go_simp
          simp only [Act.put, List.getElem_toArray, List.getElem_cons_zero, List.getElem_cons_succ, List.setIfInBounds_toArray, List.set_cons_zero, List.set_cons_succ]
          refine anyH_list #[false, true, true, true, true, false, false, false, false, false, false, false, false, false, false] (by kernel_rfl) ?_
          refine anyC_take 5 (v := (.bool false)) rfl (by kernel_rfl) (by kernel_rfl) (by kernel_rfl) (by kernel_rfl) (fun _ _ _ h => h) (.inl ⟨by rfl, fun X hX => ⟨fun _ _ => trivial, .inl ?_⟩⟩) hS ?_
          · go_simp
          simp only [Act.put, List.getElem_toArray, List.getElem_cons_zero, List.getElem_cons_succ, List.setIfInBounds_toArray, List.set_cons_zero, List.set_cons_succ]
          refine anyH_list #[false, true, true, true, true, true, false, false, false, false, false, false, false, false, false] (by kernel_rfl) ?_
          refine anyC_take 6 (v := (.bool true)) rfl (by kernel_rfl) (by kernel_rfl) (by kernel_rfl) (by kernel_rfl) (fun _ _ _ h => h) (.inl ⟨by rfl, fun X hX => ⟨fun _ _ => trivial, .inl ?_⟩⟩) hS ?_
          · go_simp
          simp only [Act.put, List.getElem_toArray, List.getElem_cons_zero, List.getElem_cons_succ, List.setIfInBounds_toArray, List.set_cons_zero, List.set_cons_succ]
          refine anyH_list #[false, true, true, true, true, true, true, false, false, false, false, false, false, false, false] (by kernel_rfl) ?_
          refine anyC_take 7 (v := (.bool true)) rfl (by kernel_rfl) (by kernel_rfl) (by kernel_rfl) (by kernel_rfl) (fun _ _ _ h => h) (.inl ⟨by rfl, fun X hX => ⟨fun _ _ => trivial, .inl ?_⟩⟩) hS ?_
          · go_simp
          simp only [Act.put, List.getElem_toArray, List.getElem_cons_zero, List.getElem_cons_succ, List.setIfInBounds_toArray, List.set_cons_zero, List.set_cons_succ]
          refine anyH_list #[false, true, true, true, true, true, true, true, false, false, false, false, false, false, false] (by kernel_rfl) ?_
          refine anyC_take 8 (v := (.int .u8 (x.toNat : Int))) rfl (by kernel_rfl) (by kernel_rfl) (by kernel_rfl) (by kernel_rfl) (fun _ _ _ h => h) (.inl ⟨by rfl, fun X hX => ⟨fun _ _ => trivial, .inl ?_⟩⟩) hS ?_
          · go_simp
          simp only [Act.put, List.getElem_toArray, List.getElem_cons_zero, List.getElem_cons_succ, List.setIfInBounds_toArray, List.set_cons_zero, List.set_cons_succ]
          refine anyH_list #[false, true, true, true, true, true, true, true, true, false, false, false, false, false, false] (by kernel_rfl) ?_
          refine anyC_take 9 (v := (.int .i64 p)) rfl (by kernel_rfl) (by kernel_rfl) (by kernel_rfl) (by kernel_rfl) (fun _ _ _ h => h) (.inl ⟨by rfl, fun X hX => ⟨fun _ _ => trivial, .inl ?_⟩⟩) hS ?_
          · go_simp
          simp only [Act.put, List.getElem_toArray, List.getElem_cons_zero, List.getElem_cons_succ, List.setIfInBounds_toArray, List.set_cons_zero, List.set_cons_succ]
          refine anyH_list #[false, true, true, true, true, true, true, true, true, true, false, false, false, false, false] (by kernel_rfl) ?_
          refine anyC_take 10 (v := (.bool z2)) rfl (by kernel_rfl) (by kernel_rfl) (by kernel_rfl) (by kernel_rfl) (fun _ _ _ h => h) (.inl ⟨by rfl, fun X hX => ⟨fun _ _ => trivial, .inr ⟨62, #[.int .u8 (x.toNat : Int), .int .i64 p], ?_, (fun h => by cases h), (CallsIn.inRound ll (callsIn_wide.2 (c2 X))).mono (fun _ _ h => ⟨h.1, h.2.symm⟩)⟩⟩⟩) hS ?_
          · go_simp
          simp only [Act.put, List.getElem_toArray, List.getElem_cons_zero, List.getElem_cons_succ, List.setIfInBounds_toArray, List.set_cons_zero, List.set_cons_succ]
          refine anyH_list #[false, true, true, true, true, true, true, true, true, true, true, false, false, false, false] (by kernel_rfl) ?_
          refine anyC_take 11 (v := (.bool z2)) rfl (by kernel_rfl) (by kernel_rfl) (by kernel_rfl) (by kernel_rfl) (fun _ _ _ h => h) (.inl ⟨by rfl, fun X hX => ⟨fun _ _ => trivial, .inl ?_⟩⟩) hS ?_
          · go_simp
          simp only [Act.put, List.getElem_toArray, List.getElem_cons_zero, List.getElem_cons_succ, List.setIfInBounds_toArray, List.set_cons_zero, List.set_cons_succ]
          refine anyH_list #[false, true, true, true, true, true, true, true, true, true, true, true, false, false, false] (by kernel_rfl) ?_
          refine anyC_take 12 (v := (.bool z2)) rfl (by kernel_rfl) (by kernel_rfl) (by kernel_rfl) (by kernel_rfl) (fun _ _ _ h => h) (.inl ⟨by rfl, fun X hX => ⟨fun _ _ => trivial, .inl ?_⟩⟩) hS ?_
          · go_simp
          simp only [Act.put, List.getElem_toArray, List.getElem_cons_zero, List.getElem_cons_succ, List.setIfInBounds_toArray, List.set_cons_zero, List.set_cons_succ]
          refine anyH_list #[false, true, true, true, true, true, true, true, true, true, true, true, true, false, false] (by kernel_rfl) ?_
          refine anyH_one 0 (by kernel_rfl) rfl fun K hK => ?_
          go_simp
          refine hK _ _ hS ?_
          clear hK K
          refine anyH_list #[true, true, true, true, true, true, true, true, true, true, true, true, true, false, false] (by kernel_rfl) ?_
          refine anyH_one 13 (by kernel_rfl) rfl fun K hK => ?_
          go_simp
          refine ⟨trivial, rfl, (CallsIn.inRound ll (callsIn_wide.2 (c3 z2))).mono ?_⟩
          rintro e w3 ⟨v', rfl, hr3, hG⟩
          obtain ⟨nt, hnt⟩ : ∃ nt, canL p pre ++ putL z2 x = nt := ⟨_, rfl⟩
          rw [hnt] at hr3
          have HN := Lib.hid hnt
          clear hnt
          obtain ⟨q3, cc3, rfl, _⟩ := row_open hr3
          obtain ⟨hv1, hv2, hr2, hkk⟩ := grown_keep (S := fun b => RB b ∨ Pv b) hbx (by decide) hrow (fun h => h.elim hRn (hnP _ (by omega))) hvn hr3 hG
          have hS3 := ((hG.1 (fun b => b = w.heap.size) (fun b hb h => by have := (hrow.lt b hb).1; omega)).boxed hbp rfl).cell
          have hS4 := (hkk.boxed hbp (.inl (hRo _ (by omega)))).cell
          have hc1 := hv1.cell
          have hf1 := hv1.frozen
          refine hK _ _ hS3 ?_
          clear hK K
          refine anyH_list #[true, true, true, true, true, true, true, true, true, true, true, true, true, true, false] (by kernel_rfl) ?_
          refine anyH_one 14 (by kernel_rfl) rfl fun K hK => ?_
          go_simp
          refine hK _ _ hS4 ?_
          clear hK K
          refine anyH_done (by kernel_rfl) ?_ _
          clear hS3 hc1 hf1 c1 c2 c3
          gi_wp2
          refine ⟨(hkd _).trans hkk, _, hv2, ?_, fun b hb => hge b hb, fun b hb hp => ?_, hKd.trans (hkk.mono fun b _ h => .inl h)⟩
          · rw [can_one, HC.out, HN.out]; exact hr2
          · rcases hG.2 b hb with h | h
            · exact hnv b h hp
            · have h5 := hPl2 _ hp; omega
        · have HC := Lib.hid (show canB p (x, true) = false by rw [hcb]; rfl)
          clear hcb
          refine anyC_take 1 (v := (.int .u8 (x.toNat : Int))) rfl (by kernel_rfl) (by kernel_rfl) (by kernel_rfl) (by kernel_rfl) (fun _ _ _ h => h) (.inl ⟨by rfl, fun X hX => ⟨fun _ _ => trivial, .inl ?_⟩⟩) hS ?_
          · go_simp
          simp only [Act.put, List.getElem_toArray, List.getElem_cons_zero, List.getElem_cons_succ, List.setIfInBounds_toArray, List.set_cons_zero, List.set_cons_succ]
          refine anyH_list #[false, true, false, false, false, false, false, false, false, false, false, false, false, false, false] (by kernel_rfl) ?_
          refine anyC_take 2 (v := (.int .u8 (x.toNat : Int))) rfl (by kernel_rfl) (by kernel_rfl) (by kernel_rfl) (by kernel_rfl) (fun _ _ _ h => h) (.inl ⟨by rfl, fun X hX => ⟨fun _ _ => trivial, .inl ?_⟩⟩) hS ?_
          · go_simp
          simp only [Act.put, List.getElem_toArray, List.getElem_cons_zero, List.getElem_cons_succ, List.setIfInBounds_toArray, List.set_cons_zero, List.set_cons_succ]
          refine anyH_list #[false, true, true, false, false, false, false, false, false, false, false, false, false, false, false] (by kernel_rfl) ?_
          refine anyC_take 3 (v := (.bool false)) rfl (by kernel_rfl) (by kernel_rfl) (by kernel_rfl) (by kernel_rfl) (fun _ _ _ h => h) (.inl ⟨by rfl, fun X hX => ⟨fun _ _ => trivial, .inr ⟨61, #[.int .u8 (x.toNat : Int)], ?_, (fun h => by cases h), (CallsIn.inRound ll (callsIn_wide.2 (c1 X))).mono (fun _ _ h => ⟨h.1, h.2.symm⟩)⟩⟩⟩) hS ?_
          · go_simp
          simp only [Act.put, List.getElem_toArray, List.getElem_cons_zero, List.getElem_cons_succ, List.setIfInBounds_toArray, List.set_cons_zero, List.set_cons_succ]
          refine anyH_list #[false, true, true, true, false, false, false, false, false, false, false, false, false, false, false] (by kernel_rfl) ?_
          refine anyC_take 4 (v := (.bool false)) rfl (by kernel_rfl) (by kernel_rfl) (by kernel_rfl) (by kernel_rfl) (fun _ _ _ h => h) (.inl ⟨by rfl, fun X hX => ⟨fun _ _ => trivial, .inl ?_⟩⟩) hS ?_
          · go_simp
          simp only [Act.put, List.getElem_toArray, List.getElem_cons_zero, List.getElem_cons_succ, List.setIfInBounds_toArray, List.set_cons_zero, List.set_cons_succ]
          refine anyH_list #[false, true, true, true, true, false, false, false, false, false, false, false, false, false, false] (by kernel_rfl) ?_
          refine anyC_take 5 (v := (.bool true)) rfl (by kernel_rfl) (by kernel_rfl) (by kernel_rfl) (by kernel_rfl) (fun _ _ _ h => h) (.inl ⟨by rfl, fun X hX => ⟨fun _ _ => trivial, .inl ?_⟩⟩) hS ?_
          · go_simp
          simp only [Act.put, List.getElem_toArray, List.getElem_cons_zero, List.getElem_cons_succ, List.setIfInBounds_toArray, List.set_cons_zero, List.set_cons_succ]
          refine anyH_list #[false, true, true, true, true, true, false, false, false, false, false, false, false, false, false] (by kernel_rfl) ?_
          refine anyC_take 6 (v := (.bool false)) rfl (by kernel_rfl) (by kernel_rfl) (by kernel_rfl) (by kernel_rfl) (fun _ _ _ h => h) (.inl ⟨by rfl, fun X hX => ⟨fun _ _ => trivial, .inl ?_⟩⟩) hS ?_
          · go_simp
          simp only [Act.put, List.getElem_toArray, List.getElem_cons_zero, List.getElem_cons_succ, List.setIfInBounds_toArray, List.set_cons_zero, List.set_cons_succ]
          refine anyH_list #[false, true, true, true, true, true, true, false, false, false, false, false, false, false, false] (by kernel_rfl) ?_
          refine anyC_take 7 (v := (.bool false)) rfl (by kernel_rfl) (by kernel_rfl) (by kernel_rfl) (by kernel_rfl) (fun _ _ _ h => h) (.inl ⟨by rfl, fun X hX => ⟨fun _ _ => trivial, .inl ?_⟩⟩) hS ?_
          · go_simp
          simp only [Act.put, List.getElem_toArray, List.getElem_cons_zero, List.getElem_cons_succ, List.setIfInBounds_toArray, List.set_cons_zero, List.set_cons_succ]
          refine anyH_list #[false, true, true, true, true, true, true, true, false, false, false, false, false, false, false] (by kernel_rfl) ?_
          refine anyC_take 8 (v := undef) rfl (by kernel_rfl) (by kernel_rfl) (by kernel_rfl) (by kernel_rfl) (fun _ _ _ h => h) (.inr ⟨by rfl, rfl, fun _ _ _ => trivial⟩) hS ?_
          simp only [Act.put, List.getElem_toArray, List.getElem_cons_zero, List.getElem_cons_succ, List.setIfInBounds_toArray, List.set_cons_zero, List.set_cons_succ]
          refine anyH_list #[false, true, true, true, true, true, true, true, true, false, false, false, false, false, false] (by kernel_rfl) ?_
          refine anyC_take 9 (v := undef) rfl (by kernel_rfl) (by kernel_rfl) (by kernel_rfl) (by kernel_rfl) (fun _ _ _ h => h) (.inr ⟨by rfl, rfl, fun _ _ _ => trivial⟩) hS ?_
          simp only [Act.put, List.getElem_toArray, List.getElem_cons_zero, List.getElem_cons_succ, List.setIfInBounds_toArray, List.set_cons_zero, List.set_cons_succ]
          refine anyH_list #[false, true, true, true, true, true, true, true, true, true, false, false, false, false, false] (by kernel_rfl) ?_
          refine anyC_take 10 (v := undef) rfl (by kernel_rfl) (by kernel_rfl) (by kernel_rfl) (by kernel_rfl) (fun _ _ _ h => h) (.inr ⟨by rfl, rfl, fun _ _ _ => trivial⟩) hS ?_
          simp only [Act.put, List.getElem_toArray, List.getElem_cons_zero, List.getElem_cons_succ, List.setIfInBounds_toArray, List.set_cons_zero, List.set_cons_succ]
          refine anyH_list #[false, true, true, true, true, true, true, true, true, true, true, false, false, false, false] (by kernel_rfl) ?_
          refine anyC_take 11 (v := (.bool false)) rfl (by kernel_rfl) (by kernel_rfl) (by kernel_rfl) (by kernel_rfl) (fun _ _ _ h => h) (.inl ⟨by rfl, fun X hX => ⟨fun _ _ => trivial, .inl ?_⟩⟩) hS ?_
          · go_simp
          simp only [Act.put, List.getElem_toArray, List.getElem_cons_zero, List.getElem_cons_succ, List.setIfInBounds_toArray, List.set_cons_zero, List.set_cons_succ]
          refine anyH_list #[false, true, true, true, true, true, true, true, true, true, true, true, false, false, false] (by kernel_rfl) ?_
          refine anyC_take 12 (v := (.bool false)) rfl (by kernel_rfl) (by kernel_rfl) (by kernel_rfl) (by kernel_rfl) (fun _ _ _ h => h) (.inl ⟨by rfl, fun X hX => ⟨fun _ _ => trivial, .inl ?_⟩⟩) hS ?_
          · go_simp
          simp only [Act.put, List.getElem_toArray, List.getElem_cons_zero, List.getElem_cons_succ, List.setIfInBounds_toArray, List.set_cons_zero, List.set_cons_succ]
          refine anyH_list #[false, true, true, true, true, true, true, true, true, true, true, true, true, false, false] (by kernel_rfl) ?_
          refine anyH_one 0 (by kernel_rfl) rfl fun K hK => ?_
          go_simp
          refine hK _ _ hS ?_
          clear hK K
          refine anyH_list #[true, true, true, true, true, true, true, true, true, true, true, true, true, false, false] (by kernel_rfl) ?_
          refine anyH_one 13 (by kernel_rfl) rfl fun K hK => ?_
          go_simp
          refine ⟨trivial, rfl, (CallsIn.inRound ll (callsIn_wide.2 (c3 false))).mono ?_⟩
          rintro e w3 ⟨v', rfl, hr3, hG⟩
          obtain ⟨nt, hnt⟩ : ∃ nt, canL p pre ++ putL false x = nt := ⟨_, rfl⟩
          rw [hnt] at hr3
          have HN := Lib.hid hnt
          clear hnt
          obtain ⟨q3, cc3, rfl, _⟩ := row_open hr3
          obtain ⟨hv1, hv2, hr2, hkk⟩ := grown_keep (S := fun b => RB b ∨ Pv b) hbx (by decide) hrow (fun h => h.elim hRn (hnP _ (by omega))) hvn hr3 hG
          have hS3 := ((hG.1 (fun b => b = w.heap.size) (fun b hb h => by have := (hrow.lt b hb).1; omega)).boxed hbp rfl).cell
          have hS4 := (hkk.boxed hbp (.inl (hRo _ (by omega)))).cell
          have hc1 := hv1.cell
          have hf1 := hv1.frozen
          refine hK _ _ hS3 ?_
          clear hK K
          refine anyH_list #[true, true, true, true, true, true, true, true, true, true, true, true, true, true, false] (by kernel_rfl) ?_
          refine anyH_one 14 (by kernel_rfl) rfl fun K hK => ?_
          go_simp
          refine hK _ _ hS4 ?_
          clear hK K
          refine anyH_done (by kernel_rfl) ?_ _
          clear hS3 hc1 hf1 c1 c2 c3
          gi_wp2
          refine ⟨(hkd _).trans hkk, _, hv2, ?_, fun b hb => hge b hb, fun b hb hp => ?_, hKd.trans (hkk.mono fun b _ h => .inl h)⟩
          · rw [can_one, HC.out, HN.out]; exact hr2
          · rcases hG.2 b hb with h | h
            · exact hnv b h hp
            · have h5 := hPl2 _ hp; omega
      · have HC := Lib.hid (show canB p (x, cd) = true by rw [hcb]; rfl)
        clear hcb
        refine anyC_take 1 (v := (.int .u8 (x.toNat : Int))) rfl (by kernel_rfl) (by kernel_rfl) (by kernel_rfl) (by kernel_rfl) (fun _ _ _ h => h) (.inl ⟨by rfl, fun X hX => ⟨fun _ _ => trivial, .inl ?_⟩⟩) hS ?_
        · go_simp
        simp only [Act.put, List.getElem_toArray, List.getElem_cons_zero, List.getElem_cons_succ, List.setIfInBounds_toArray, List.set_cons_zero, List.set_cons_succ]
        refine anyH_list #[false, true, false, false, false, false, false, false, false, false, false, false, false, false, false] (by kernel_rfl) ?_
        refine anyC_take 2 (v := (.int .u8 (x.toNat : Int))) rfl (by kernel_rfl) (by kernel_rfl) (by kernel_rfl) (by kernel_rfl) (fun _ _ _ h => h) (.inl ⟨by rfl, fun X hX => ⟨fun _ _ => trivial, .inl ?_⟩⟩) hS ?_
        · go_simp
        simp only [Act.put, List.getElem_toArray, List.getElem_cons_zero, List.getElem_cons_succ, List.setIfInBounds_toArray, List.set_cons_zero, List.set_cons_succ]
        refine anyH_list #[false, true, true, false, false, false, false, false, false, false, false, false, false, false, false] (by kernel_rfl) ?_
        refine anyC_take 3 (v := (.bool true)) rfl (by kernel_rfl) (by kernel_rfl) (by kernel_rfl) (by kernel_rfl) (fun _ _ _ h => h) (.inl ⟨by rfl, fun X hX => ⟨fun _ _ => trivial, .inr ⟨61, #[.int .u8 (x.toNat : Int)], ?_, (fun h => by cases h), (CallsIn.inRound ll (callsIn_wide.2 (c1 X))).mono (fun _ _ h => ⟨h.1, h.2.symm⟩)⟩⟩⟩) hS ?_
        · go_simp
        simp only [Act.put, List.getElem_toArray, List.getElem_cons_zero, List.getElem_cons_succ, List.setIfInBounds_toArray, List.set_cons_zero, List.set_cons_succ]
        refine anyH_list #[false, true, true, true, false, false, false, false, false, false, false, false, false, false, false] (by kernel_rfl) ?_
        refine anyC_take 4 (v := (.bool true)) rfl (by kernel_rfl) (by kernel_rfl) (by kernel_rfl) (by kernel_rfl) (fun _ _ _ h => h) (.inl ⟨by rfl, fun X hX => ⟨fun _ _ => trivial, .inl ?_⟩⟩) hS ?_
        · go_simp
        simp only [Act.put, List.getElem_toArray, List.getElem_cons_zero, List.getElem_cons_succ, List.setIfInBounds_toArray, List.set_cons_zero, List.set_cons_succ]
        refine anyH_list #[false, true, true, true, true, false, false, false, false, false, false, false, false, false, false] (by kernel_rfl) ?_
        refine anyC_take 5 (v := undef) rfl (by kernel_rfl) (by kernel_rfl) (by kernel_rfl) (by kernel_rfl) (fun _ _ _ h => h) (.inr ⟨by rfl, rfl, fun _ _ _ => trivial⟩) hS ?_
        simp only [Act.put, List.getElem_toArray, List.getElem_cons_zero, List.getElem_cons_succ, List.setIfInBounds_toArray, List.set_cons_zero, List.set_cons_succ]
        refine anyH_list #[false, true, true, true, true, true, false, false, false, false, false, false, false, false, false] (by kernel_rfl) ?_
        refine anyC_take 6 (v := undef) rfl (by kernel_rfl) (by kernel_rfl) (by kernel_rfl) (by kernel_rfl) (fun _ _ _ h => h) (.inr ⟨by rfl, rfl, fun _ _ _ => trivial⟩) hS ?_
        simp only [Act.put, List.getElem_toArray, List.getElem_cons_zero, List.getElem_cons_succ, List.setIfInBounds_toArray, List.set_cons_zero, List.set_cons_succ]
        refine anyH_list #[false, true, true, true, true, true, true, false, false, false, false, false, false, false, false] (by kernel_rfl) ?_
        refine anyC_take 7 (v := undef) rfl (by kernel_rfl) (by kernel_rfl) (by kernel_rfl) (by kernel_rfl) (fun _ _ _ h => h) (.inr ⟨by rfl, rfl, fun _ _ _ => trivial⟩) hS ?_
        simp only [Act.put, List.getElem_toArray, List.getElem_cons_zero, List.getElem_cons_succ, List.setIfInBounds_toArray, List.set_cons_zero, List.set_cons_succ]
        refine anyH_list #[false, true, true, true, true, true, true, true, false, false, false, false, false, false, false] (by kernel_rfl) ?_
        refine anyC_take 8 (v := undef) rfl (by kernel_rfl) (by kernel_rfl) (by kernel_rfl) (by kernel_rfl) (fun _ _ _ h => h) (.inr ⟨by rfl, rfl, fun _ _ _ => trivial⟩) hS ?_
        simp only [Act.put, List.getElem_toArray, List.getElem_cons_zero, List.getElem_cons_succ, List.setIfInBounds_toArray, List.set_cons_zero, List.set_cons_succ]
        refine anyH_list #[false, true, true, true, true, true, true, true, true, false, false, false, false, false, false] (by kernel_rfl) ?_
        refine anyC_take 9 (v := undef) rfl (by kernel_rfl) (by kernel_rfl) (by kernel_rfl) (by kernel_rfl) (fun _ _ _ h => h) (.inr ⟨by rfl, rfl, fun _ _ _ => trivial⟩) hS ?_
        simp only [Act.put, List.getElem_toArray, List.getElem_cons_zero, List.getElem_cons_succ, List.setIfInBounds_toArray, List.set_cons_zero, List.set_cons_succ]
        refine anyH_list #[false, true, true, true, true, true, true, true, true, true, false, false, false, false, false] (by kernel_rfl) ?_
        refine anyC_take 10 (v := undef) rfl (by kernel_rfl) (by kernel_rfl) (by kernel_rfl) (by kernel_rfl) (fun _ _ _ h => h) (.inr ⟨by rfl, rfl, fun _ _ _ => trivial⟩) hS ?_
        simp only [Act.put, List.getElem_toArray, List.getElem_cons_zero, List.getElem_cons_succ, List.setIfInBounds_toArray, List.set_cons_zero, List.set_cons_succ]
        refine anyH_list #[false, true, true, true, true, true, true, true, true, true, true, false, false, false, false] (by kernel_rfl) ?_
        refine anyC_take 11 (v := undef) rfl (by kernel_rfl) (by kernel_rfl) (by kernel_rfl) (by kernel_rfl) (fun _ _ _ h => h) (.inr ⟨by rfl, rfl, fun _ _ _ => trivial⟩) hS ?_
        simp only [Act.put, List.getElem_toArray, List.getElem_cons_zero, List.getElem_cons_succ, List.setIfInBounds_toArray, List.set_cons_zero, List.set_cons_succ]
        refine anyH_list #[false, true, true, true, true, true, true, true, true, true, true, true, false, false, false] (by kernel_rfl) ?_
        refine anyC_take 12 (v := (.bool true)) rfl (by kernel_rfl) (by kernel_rfl) (by kernel_rfl) (by kernel_rfl) (fun _ _ _ h => h) (.inl ⟨by rfl, fun X hX => ⟨fun _ _ => trivial, .inl ?_⟩⟩) hS ?_
        · go_simp
        simp only [Act.put, List.getElem_toArray, List.getElem_cons_zero, List.getElem_cons_succ, List.setIfInBounds_toArray, List.set_cons_zero, List.set_cons_succ]
        refine anyH_list #[false, true, true, true, true, true, true, true, true, true, true, true, true, false, false] (by kernel_rfl) ?_
        refine anyH_one 0 (by kernel_rfl) rfl fun K hK => ?_
        go_simp
        refine hK _ _ hS ?_
        clear hK K
        refine anyH_list #[true, true, true, true, true, true, true, true, true, true, true, true, true, false, false] (by kernel_rfl) ?_
        refine anyH_one 13 (by kernel_rfl) rfl fun K hK => ?_
        go_simp
        refine ⟨trivial, rfl, (CallsIn.inRound ll (callsIn_wide.2 (c3 true))).mono ?_⟩
        rintro e w3 ⟨v', rfl, hr3, hG⟩
        obtain ⟨nt, hnt⟩ : ∃ nt, canL p pre ++ putL true x = nt := ⟨_, rfl⟩
        rw [hnt] at hr3
        have HN := Lib.hid hnt
        clear hnt
        obtain ⟨q3, cc3, rfl, _⟩ := row_open hr3
        obtain ⟨hv1, hv2, hr2, hkk⟩ := grown_keep (S := fun b => RB b ∨ Pv b) hbx (by decide) hrow (fun h => h.elim hRn (hnP _ (by omega))) hvn hr3 hG
        have hS3 := ((hG.1 (fun b => b = w.heap.size) (fun b hb h => by have := (hrow.lt b hb).1; omega)).boxed hbp rfl).cell
        have hS4 := (hkk.boxed hbp (.inl (hRo _ (by omega)))).cell
        have hc1 := hv1.cell
        have hf1 := hv1.frozen
        refine hK _ _ hS3 ?_
        clear hK K
        refine anyH_list #[true, true, true, true, true, true, true, true, true, true, true, true, true, true, false] (by kernel_rfl) ?_
        refine anyH_one 14 (by kernel_rfl) rfl fun K hK => ?_
        go_simp
        refine hK _ _ hS4 ?_
        clear hK K
        refine anyH_done (by kernel_rfl) ?_ _
        clear hS3 hc1 hf1 c1 c2 c3
        gi_wp2
        refine ⟨(hkd _).trans hkk, _, hv2, ?_, fun b hb => hge b hb, fun b hb hp => ?_, hKd.trans (hkk.mono fun b _ h => .inl h)⟩
        · rw [can_one, HC.out, HN.out]; exact hr2
        · rcases hG.2 b hb with h | h
          · exact hnv b h hp
          · have h5 := hPl2 _ hp; omega
    case done =>
      rintro D Pv Wd hD hPD hPl ⟨v, hbx, hrow, hge, hnv, hKW⟩ hK
      have cB := hbx.cell
      clear b0 b1 own0 hb0
      gi_wp2
      refine ⟨by simp, .inl ⟨_, _, rfl, run_takeDeferred hK, ?_⟩⟩
      refine ⟨_, results_tmp2 rfl _ _ _, v, 0, rfl, Lib.hid (by rw [HM.out]; rfl), ?_, ?_⟩
      · rw [HM.out]
        exact row_base ((Keep.putObj (S := fun b => ¬ Pv b) Wd D _ (fun h => h hPD)).row hrow hnv) (by omega)
      · exact (((((hkp (fun b => b < w.heap.size)).trans (hk0 _)).trans (hKW.mono fun b _ h => hRo b (by omega)))).trans (Keep.putObj _ _ _ (by omega))).below (Nat.le_refl _)
    case stop =>
      rintro D c pre rest Pv Wd _ _ _ _ h _
      exact h.elim

end Go.Proofs.YtdbpbfbjebjbeaaDoor.Pct

namespace Go.Proofs.YtdbpbfbjebjbeaaDoor.Ck
open Url Hdr
set_option linter.unusedVariables false

structure Ck where
  name : List UInt8
  value : List UInt8
  path : List UInt8
  dom : List UInt8
  age : Int
  secure : Bool

/-- A byte of a value. -/
def valB (b : UInt8) : Bool := decide (33 ≤ b.toNat ∧ b.toNat ≤ 126) && b != 34 && b != 44 && b != 59 && b != 92
def keyL (p : List UInt8) : List UInt8 := Ref.lowL (trimB (aheadL 61 p))
def txtL (p : List UInt8) : List UInt8 := trimB ((Host.tailL 61 p).getD [])
def pathS : List UInt8 := [112, 97, 116, 104]
def domS : List UInt8 := [100, 111, 109, 97, 105, 110]
def ageS : List UInt8 := [109, 97, 120, 45, 97, 103, 101]
def secS : List UInt8 := [115, 101, 99, 117, 114, 101]
/-- One attribute more; none: it can't be. -/
def attr (c : Ck) (p : List UInt8) : Option Ck :=
  if keyL p = pathS then some { c with path := if (txtL p).head? = some 47 then txtL p else [] }
  else if keyL p = domS then (if Host.parseE (txtL p) = 0 then some { c with dom := Ref.lowL (txtL p) } else none)
  else if keyL p = ageS then (match Ref.numOf 1073741824 (txtL p) with | some n => some { c with age := n } | none => none)
  else if keyL p = secS then some { c with secure := true } else some c
def attrs : Ck → List (List UInt8) → Option Ck
  | c, [] => some c
  | c, p :: r => match attr c p with | some d => attrs d r | none => none
def headC (p : List UInt8) : Option Ck := if (61 : UInt8) ∈ p ∧ tokL (trimB (aheadL 61 p)) = true ∧ (txtL p).all valB = true then some ⟨trimB (aheadL 61 p), txtL p, [], [], -1, false⟩ else none
def pathP (c : Ck) : List (List UInt8) := if c.path = [] then [] else [[32, 80, 97, 116, 104] ++ 61 :: c.path]
def domP (c : Ck) : List (List UInt8) := if c.dom = [] then [] else [[32, 68, 111, 109, 97, 105, 110] ++ 61 :: c.dom]
def ageP (c : Ck) : List (List UInt8) := if c.age < 0 then [] else [[32, 77, 97, 120, 45, 65, 103, 101] ++ 61 :: digL c.age.toNat]
def secP (c : Ck) : List (List UInt8) := if c.secure = true then [[32, 83, 101, 99, 117, 114, 101]] else []
def textC (c : Ck) : List UInt8 := Ref.joinL 59 ((c.name ++ 61 :: c.value) :: (pathP c ++ (domP c ++ (ageP c ++ secP c))))

/-- The cookie of a line, whatever its length. -/
def cookieL (t : List UInt8) : Option Ck := match Ref.splitL 59 t with
  | [] => none
  | p :: r => match headC p with
    | none => none
    | some c => attrs c r
/-- A line's cookie; a text that would be too long is refused. -/
def parseC (t : List UInt8) : Sum Int Ck := if 4096 < t.length then .inl 3 else match cookieL t with
  | none => .inl 2
  | some d => if 4096 < (textC d).length then .inl 3 else .inr d

/-- A cookie in its one form. -/
structure Ok (c : Ck) : Prop where
  name : tokL c.name = true
  value : c.value.all valB = true
  path : c.path = [] ∨ (c.path.head? = some 47 ∧ trimB c.path = c.path ∧ (59 : UInt8) ∉ c.path)
  dom : c.dom = [] ∨ (Host.parseE c.dom = 0 ∧ Ref.lowL c.dom = c.dom)
  age1 : -1 ≤ c.age
  age2 : c.age ≤ 1073741824

/-! ### trimming -/
theorem drop_head : ∀ (l : List UInt8) (x : UInt8) (r : List UInt8), l.dropWhile blankB = x :: r → blankB x = false
  | [], x, r, h => by cases h
  | y :: l, x, r, h => by
    rw [List.dropWhile_cons] at h
    by_cases hy : blankB y = true
    · rw [if_pos hy] at h; exact drop_head l x r h
    · rw [if_neg hy] at h
      cases h
      simpa using hy
theorem drop_id (l : List UInt8) (h : ∀ x r, l = x :: r → blankB x = false) : l.dropWhile blankB = l := by
  cases l with
  | nil => rfl
  | cons x r => rw [List.dropWhile_cons, if_neg (by rw [h x r rfl]; simp)]
theorem trim_again (l : List UInt8) : trimB (trimB l) = trimB l := by
  unfold trimB
  obtain ⟨m, hm⟩ : ∃ m, l.dropWhile blankB = m := ⟨_, rfl⟩
  rw [hm]
  obtain ⟨r, hr⟩ : ∃ r, m.reverse.dropWhile blankB = r := ⟨_, rfl⟩
  rw [hr]
  have h1 : r.reverse.dropWhile blankB = r.reverse := drop_id _ (fun x t hx => by
    have hs : m.reverse = m.reverse.takeWhile blankB ++ r := by rw [← hr]; exact (List.takeWhile_append_dropWhile ..).symm
    have hm2 : m = r.reverse ++ (m.reverse.takeWhile blankB).reverse := by
      have := congrArg List.reverse hs
      rwa [List.reverse_reverse, List.reverse_append] at this
    refine drop_head l x (t ++ (m.reverse.takeWhile blankB).reverse) ?_
    rw [hm]
    conv => lhs; rw [hm2, hx]
    rfl)
  rw [h1, List.reverse_reverse, drop_id r (fun x t hx => drop_head m.reverse x t (by rw [hr, hx]))]
theorem trim_nob (l : List UInt8) (h : ∀ b ∈ l, blankB b = false) : trimB l = l := by
  unfold trimB
  rw [drop_id l (fun x r e => h x (by rw [e]; simp)), drop_id l.reverse (fun x r e => h x (by
    have : x ∈ l.reverse := by rw [e]; simp
    simpa using this)), List.reverse_reverse]
theorem trim_mem (l : List UInt8) (b : UInt8) (h : b ∈ trimB l) : b ∈ l := by
  unfold trimB at h
  have h1 := (List.dropWhile_sublist _).subset (List.mem_reverse.1 h)
  exact (List.dropWhile_sublist _).subset (List.mem_reverse.1 h1)

/-! ### pieces -/
theorem split_app (c : UInt8) : ∀ (p rest : List UInt8), c ∉ p → Ref.splitL c (p ++ c :: rest) = p :: Ref.splitL c rest
  | [], rest, _ => Ref.split_is c rest
  | b :: p, rest, h => by
    have hb : b ≠ c := fun e => h (by rw [e]; simp)
    have ih := split_app c p rest (fun hm => h (by simp [hm]))
    rw [List.cons_append, Ref.split_not c b _ hb, ih]
    rfl
theorem split_one (c : UInt8) : ∀ p : List UInt8, c ∉ p → Ref.splitL c p = [p]
  | [], _ => rfl
  | b :: p, h => by
    have hb : b ≠ c := fun e => h (by rw [e]; simp)
    rw [Ref.split_not c b _ hb, split_one c p (fun hm => h (by simp [hm]))]
    rfl
theorem split_join (c : UInt8) : ∀ (l : List (List UInt8)) (p : List UInt8), c ∉ p → (∀ x ∈ l, c ∉ x) → Ref.splitL c (Ref.joinL c (p :: l)) = p :: l
  | [], p, hp, _ => split_one c p hp
  | q :: l, p, hp, h => by
    show Ref.splitL c (p ++ c :: Ref.joinL c (q :: l)) = _
    rw [split_app c p _ hp, split_join c l q (h q (by simp)) (fun x hx => h x (by simp [hx]))]

/-! ### what may stand where -/
theorem val_no (v : List UInt8) (h : v.all valB = true) (d : UInt8) (hd : valB d = false) : d ∉ v := fun hm => by
  rw [List.all_eq_true] at h
  have := h d hm
  rw [hd] at this; cases this
theorem val_trim (v : List UInt8) (h : v.all valB = true) : trimB v = v := trim_nob v (fun b hb => by
  rw [List.all_eq_true] at h
  have h1 := h b hb
  unfold valB at h1
  simp only [Bool.and_eq_true, decide_eq_true_eq] at h1
  unfold blankB
  rw [decide_eq_false_iff_not]
  omega)
theorem tok_trim (v : List UInt8) (h : tokL v = true) : trimB v = v := trim_nob v (fun b hb => by
  have h32 := tok_no v h 32 (by decide)
  have h9 := tok_no v h 9 (by decide)
  unfold blankB
  rw [decide_eq_false_iff_not]
  rintro (e | e)
  · exact h32 (by rwa [show (32 : UInt8) = b from UInt8.toNat_inj.1 (by rw [e]; rfl)])
  · exact h9 (by rwa [show (9 : UInt8) = b from UInt8.toNat_inj.1 (by rw [e]; rfl)]))
theorem dom_trim (v : List UInt8) (h : Host.parseE v = 0) : trimB v = v := trim_nob v (fun b hb => by
  have h32 := host_no v h 32 (by decide) (by decide)
  have h9 := host_no v h 9 (by decide) (by decide)
  unfold blankB
  rw [decide_eq_false_iff_not]
  rintro (e | e)
  · exact h32 (by rwa [show (32 : UInt8) = b from UInt8.toNat_inj.1 (by rw [e]; rfl)])
  · exact h9 (by rwa [show (9 : UInt8) = b from UInt8.toNat_inj.1 (by rw [e]; rfl)]))
theorem dig_trim (n : Nat) : trimB (digL n) = digL n := trim_nob _ (fun b hb => by
  have h := (Ref.decB_of b).1 (dig_dec n b hb)
  unfold blankB
  rw [decide_eq_false_iff_not]
  omega)
theorem dig_no (n : Nat) : (59 : UInt8) ∉ digL n := fun h => by
  have := (Ref.decB_of 59).1 (dig_dec n 59 h)
  exact absurd this (by decide)
theorem dig_is (n : Nat) (h : n ≤ 1073741824) : Ref.numOf 1073741824 (digL n) = some (n : Int) := by
  by_cases h0 : n = 0
  · subst h0
    rw [dig_small 0 (by omega)]
    decide +kernel
  · exact dig_numOf 1073741824 n (by omega) h

theorem attr_path (c : Ck) (x : List UInt8) (h1 : x.head? = some 47) (h2 : trimB x = x) : attr c ([32, 80, 97, 116, 104] ++ 61 :: x) = some { c with path := x } := by
  obtain ⟨e1, e2⟩ := ahead_yes 61 [32, 80, 97, 116, 104] x (by decide)
  have k : keyL ([32, 80, 97, 116, 104] ++ 61 :: x) = pathS := by unfold keyL; rw [e1]; decide +kernel
  have t : txtL ([32, 80, 97, 116, 104] ++ 61 :: x) = x := by unfold txtL; rw [e2]; exact h2
  unfold attr
  rw [if_pos k, t, if_pos h1]
theorem attr_dom (c : Ck) (x : List UInt8) (h1 : Host.parseE x = 0) (h2 : Ref.lowL x = x) : attr c ([32, 68, 111, 109, 97, 105, 110] ++ 61 :: x) = some { c with dom := x } := by
  obtain ⟨e1, e2⟩ := ahead_yes 61 [32, 68, 111, 109, 97, 105, 110] x (by decide)
  have k : keyL ([32, 68, 111, 109, 97, 105, 110] ++ 61 :: x) = domS := by unfold keyL; rw [e1]; decide +kernel
  have t : txtL ([32, 68, 111, 109, 97, 105, 110] ++ 61 :: x) = x := by unfold txtL; rw [e2]; exact dom_trim x h1
  unfold attr
  rw [if_neg (by rw [k]; decide), if_pos k, t, if_pos h1, h2]
theorem attr_age (c : Ck) (n : Nat) (h : n ≤ 1073741824) : attr c ([32, 77, 97, 120, 45, 65, 103, 101] ++ 61 :: digL n) = some { c with age := (n : Int) } := by
  obtain ⟨e1, e2⟩ := ahead_yes 61 [32, 77, 97, 120, 45, 65, 103, 101] (digL n) (by decide)
  have k : keyL ([32, 77, 97, 120, 45, 65, 103, 101] ++ 61 :: digL n) = ageS := by unfold keyL; rw [e1]; decide +kernel
  have t : txtL ([32, 77, 97, 120, 45, 65, 103, 101] ++ 61 :: digL n) = digL n := by unfold txtL; rw [e2]; exact dig_trim n
  unfold attr
  rw [if_neg (by rw [k]; decide), if_neg (by rw [k]; decide), if_pos k, t, dig_is n h]
theorem attr_sec (c : Ck) : attr c [32, 83, 101, 99, 117, 114, 101] = some { c with secure := true } := by
  have k : keyL [32, 83, 101, 99, 117, 114, 101] = secS := by decide +kernel
  unfold attr
  rw [if_neg (by rw [k]; decide), if_neg (by rw [k]; decide), if_neg (by rw [k]; decide), if_pos k]
theorem attrs_app : ∀ (l m : List (List UInt8)) (c d : Ck), attrs c l = some d → attrs c (l ++ m) = attrs d m
  | [], m, c, d, h => by cases h; rfl
  | p :: l, m, c, d, h => by
    simp only [attrs, List.cons_append] at h ⊢
    cases ha : attr c p with
    | none => rw [ha] at h; cases h
    | some e => rw [ha] at h; exact attrs_app l m e d h
/-- A cookie's text is parsed to it. -/
theorem parse_text (c : Ck) (h : Ok c) (hl : (textC c).length ≤ 4096) : parseC (textC c) = .inr c := by
  obtain ⟨nm, v, pa, dm, ag, se⟩ := c
  obtain ⟨h1, h2, h3, h4, h5, h6⟩ := h
  simp only at h1 h2 h3 h4 h5 h6
  have hpieces : ∀ x ∈ pathP ⟨nm, v, pa, dm, ag, se⟩ ++ (domP ⟨nm, v, pa, dm, ag, se⟩ ++ (ageP ⟨nm, v, pa, dm, ag, se⟩ ++ secP ⟨nm, v, pa, dm, ag, se⟩)), (59 : UInt8) ∉ x := by
    intro x hx
    simp only [List.mem_append] at hx
    rcases hx with hx | hx | hx | hx
    · unfold pathP at hx
      simp only at hx
      split at hx
      · cases hx
      · rename_i hne
        obtain ⟨_, _, h59⟩ := h3.resolve_left hne
        rw [List.mem_singleton.1 hx]
        simp [h59]
    · unfold domP at hx
      simp only at hx
      split at hx
      · cases hx
      · rename_i hne
        have h59 := host_no dm (h4.resolve_left hne).1 59 (by decide) (by decide)
        rw [List.mem_singleton.1 hx]
        simp [h59]
    · unfold ageP at hx
      simp only at hx
      split at hx
      · cases hx
      · rw [List.mem_singleton.1 hx]
        simp [dig_no]
    · unfold secP at hx
      simp only at hx
      split at hx
      · rw [List.mem_singleton.1 hx]; decide
      · cases hx
  have hn61 := tok_no nm h1 61 (by decide)
  have hn59 := tok_no nm h1 59 (by decide)
  have hv59 := val_no v h2 59 (by decide)
  obtain ⟨e1, e2⟩ := ahead_yes 61 nm v hn61
  have hhead : headC (nm ++ 61 :: v) = some ⟨nm, v, [], [], -1, false⟩ := by
    have ha : trimB (aheadL 61 (nm ++ 61 :: v)) = nm := by rw [e1]; exact tok_trim nm h1
    have ht : txtL (nm ++ 61 :: v) = v := by unfold txtL; rw [e2]; exact val_trim v h2
    unfold headC
    rw [ha, ht, if_pos ⟨by simp, h1, h2⟩]
  have s1 : attrs ⟨nm, v, [], [], -1, false⟩ (pathP ⟨nm, v, pa, dm, ag, se⟩) = some ⟨nm, v, pa, [], -1, false⟩ := by
    unfold pathP
    simp only
    split
    · rename_i e; subst e; rfl
    · rename_i hne
      obtain ⟨g1, g2, _⟩ := h3.resolve_left hne
      simp only [attrs, attr_path _ pa g1 g2]
  have s2 : attrs ⟨nm, v, pa, [], -1, false⟩ (domP ⟨nm, v, pa, dm, ag, se⟩) = some ⟨nm, v, pa, dm, -1, false⟩ := by
    unfold domP
    simp only
    split
    · rename_i e; subst e; rfl
    · rename_i hne
      obtain ⟨g1, g2⟩ := h4.resolve_left hne
      simp only [attrs, attr_dom _ dm g1 g2]
  have s3 : attrs ⟨nm, v, pa, dm, -1, false⟩ (ageP ⟨nm, v, pa, dm, ag, se⟩) = some ⟨nm, v, pa, dm, ag, false⟩ := by
    unfold ageP
    simp only
    split
    · rename_i e
      have : ag = -1 := by omega
      subst this; rfl
    · rename_i hne
      simp only [attrs, attr_age _ ag.toNat (by omega)]
      rw [show ((ag.toNat : Nat) : Int) = ag by omega]
  have s4 : attrs ⟨nm, v, pa, dm, ag, false⟩ (secP ⟨nm, v, pa, dm, ag, se⟩) = some ⟨nm, v, pa, dm, ag, se⟩ := by
    unfold secP
    simp only
    split
    · rename_i e; subst e; simp only [attrs, attr_sec]
    · rename_i e
      have : se = false := by simpa using e
      subst this; rfl
  have hck : cookieL (textC ⟨nm, v, pa, dm, ag, se⟩) = some ⟨nm, v, pa, dm, ag, se⟩ := by
    unfold cookieL textC
    rw [split_join 59 _ _ (by simp [hn59, hv59]) hpieces]
    simp only [hhead, attrs_app _ _ _ _ s1, attrs_app _ _ _ _ s2, attrs_app _ _ _ _ s3, s4]
  unfold parseC
  rw [if_neg (by omega), hck]
  simp only
  rw [if_neg (by omega)]

/-! ### what is parsed -/
theorem txt_no (p : List UInt8) (d : UInt8) (h : d ∉ p) : d ∉ txtL p := fun hm => by
  have h1 := trim_mem _ _ hm
  cases e : Host.tailL 61 p with
  | none => rw [e] at h1; cases h1
  | some r =>
    rw [e] at h1
    have hs : ∀ (t r : List UInt8), Host.tailL 61 t = some r → ∀ b ∈ r, b ∈ t := by
      intro t
      induction t with
      | nil => intro r h; cases h
      | cons y t ih =>
        intro r h b hb
        unfold Host.tailL at h
        split at h
        · cases h; simp [hb]
        · exact List.mem_cons_of_mem _ (ih r h b hb)
    exact h (hs p r e d h1)
theorem split_no (c : UInt8) : ∀ (l : List UInt8), ∀ p ∈ Ref.splitL c l, c ∉ p
  | [], p, h => by
    have : p = [] := by simpa [Ref.splitL] using h
    subst this; simp
  | b :: r, p, h => by
    by_cases hb : b = c
    · subst hb
      rw [Ref.split_is] at h
      rcases List.mem_cons.1 h with rfl | h
      · simp
      · exact split_no b r p h
    · rw [Ref.split_not c b r hb] at h
      have ih := split_no c r
      cases e : Ref.splitL c r with
      | nil => exact absurd e (Ref.split_ne c r)
      | cons q s =>
        rw [e] at h ih
        have h' : p ∈ (b :: q) :: s := h
        rcases List.mem_cons.1 h' with rfl | h'
        · simp only [List.mem_cons, not_or]
          exact ⟨fun x => hb x.symm, ih q (by simp)⟩
        · exact ih p (by simp [h'])
theorem num_range (most : Nat) : ∀ (l : List UInt8) (n m : Int), 0 ≤ n → n ≤ most → Ref.numGo most l n = some m → 0 ≤ m ∧ m ≤ most
  | [], n, m, h0, h1, h => by cases h; exact ⟨h0, h1⟩
  | b :: r, n, m, h0, h1, h => by
    unfold Ref.numGo at h
    split at h
    · rename_i hc
      have hd := (Ref.decB_of b).1 hc.1
      exact num_range most r _ m (by omega) (by omega) h
    · cases h
theorem num_of (l : List UInt8) (m : Int) (h : Ref.numOf 1073741824 l = some m) : 0 ≤ m ∧ m ≤ 1073741824 := by
  unfold Ref.numOf at h
  split at h
  · cases h
  · exact num_range 1073741824 l 0 m (by omega) (by omega) h
theorem attr_ok (c d : Ck) (p : List UInt8) (h : Ok c) (hp : (59 : UInt8) ∉ p) (ha : attr c p = some d) : Ok d := by
  obtain ⟨h1, h2, h3, h4, h5, h6⟩ := h
  unfold attr at ha
  split at ha
  · cases ha
    refine ⟨h1, h2, ?_, h4, h5, h6⟩
    simp only
    split
    · rename_i hs
      exact .inr ⟨hs, trim_again _, txt_no p 59 hp⟩
    · exact .inl rfl
  · split at ha
    · split at ha
      · rename_i hd
        cases ha
        exact ⟨h1, h2, h3, .inr ⟨by rw [Host.parse_low]; exact hd, Ref.lowL_lowL _⟩, h5, h6⟩
      · cases ha
    · split at ha
      · split at ha
        · rename_i n hn
          cases ha
          obtain ⟨g1, g2⟩ := num_of _ n hn
          exact ⟨h1, h2, h3, h4, by simp only; omega, g2⟩
        · cases ha
      · split at ha
        · cases ha; exact ⟨h1, h2, h3, h4, h5, h6⟩
        · cases ha; exact ⟨h1, h2, h3, h4, h5, h6⟩
theorem attrs_ok : ∀ (l : List (List UInt8)) (c d : Ck), Ok c → (∀ p ∈ l, (59 : UInt8) ∉ p) → attrs c l = some d → Ok d
  | [], c, d, h, _, ha => by cases ha; exact h
  | p :: l, c, d, h, hp, ha => by
    simp only [attrs] at ha
    cases e : attr c p with
    | none => rw [e] at ha; cases ha
    | some x => rw [e] at ha; exact attrs_ok l x d (attr_ok c x p h (hp p (by simp)) e) (fun q hq => hp q (by simp [hq])) ha
theorem parse_ck (t : List UInt8) (c : Ck) (h : parseC t = .inr c) : cookieL t = some c ∧ t.length ≤ 4096 ∧ (textC c).length ≤ 4096 := by
  unfold parseC at h
  split at h
  · cases h
  · split at h
    · cases h
    · rename_i d hd
      split at h
      · cases h
      · cases h
        exact ⟨hd, by omega, by omega⟩
theorem cookie_ok (t : List UInt8) (c : Ck) (h : cookieL t = some c) : Ok c := by
  unfold cookieL at h
  cases e : Ref.splitL 59 t with
  | nil => rw [e] at h; cases h
  | cons p r =>
    rw [e] at h
    have hno := split_no 59 t
    rw [e] at hno
    simp only at h
    cases hh : headC p with
    | none => rw [hh] at h; cases h
    | some c0 =>
      rw [hh] at h
      simp only at h
      unfold headC at hh
      split at hh
      · rename_i hc
        cases hh
        exact attrs_ok r _ _ ⟨hc.2.1, hc.2.2, .inl rfl, .inl rfl, by simp, by simp⟩ (fun q hq => hno q (by simp [hq])) h
      · cases hh
theorem parse_ok (t : List UInt8) (c : Ck) (h : parseC t = .inr c) : Ok c := cookie_ok t c (parse_ck t c h).1

/-! ### how long -/
theorem dig_short : ∀ (k n : Nat), 0 < k → n < 10 ^ k → (digL n).length ≤ k
  | 0, n, h, _ => absurd h (by omega)
  | k + 1, n, _, h => by
    by_cases hn : n < 10
    · rw [dig_small n hn]; simp
    · rw [dig_big n hn, List.length_append]
      have hk : 0 < k := by
        rcases Nat.eq_zero_or_pos k with e | e
        · subst e; simp at h; omega
        · exact e
      have := dig_short k (n / 10) hk (by rw [Nat.pow_succ] at h; omega)
      simp only [List.length_cons, List.length_nil]
      omega
theorem trim_le (l : List UInt8) : (trimB l).length ≤ l.length := by
  unfold trimB
  rw [List.length_reverse]
  refine Nat.le_trans (List.dropWhile_sublist _).length_le ?_
  rw [List.length_reverse]
  exact (List.dropWhile_sublist _).length_le
theorem txt_le (p : List UInt8) : (txtL p).length ≤ p.length := by
  unfold txtL
  refine Nat.le_trans (trim_le _) ?_
  cases e : Host.tailL 61 p with
  | none => simp
  | some r =>
    have := Hdr.tail_len 61 p r e
    simp only [Option.getD_some]
    omega
def Small (M : Nat) (c : Ck) : Prop := c.name.length ≤ M ∧ c.value.length ≤ M ∧ c.path.length ≤ M ∧ c.dom.length ≤ M
theorem attr_small (M : Nat) (c d : Ck) (p : List UInt8) (h : Small M c) (hp : p.length ≤ M) (ha : attr c p = some d) : Small M d := by
  obtain ⟨h1, h2, h3, h4⟩ := h
  have ht := txt_le p
  unfold attr at ha
  split at ha
  · cases ha
    refine ⟨h1, h2, ?_, h4⟩
    simp only
    split
    · omega
    · simp
  · split at ha
    · split at ha
      · cases ha
        exact ⟨h1, h2, h3, by simp only; rw [Ref.lowL_length]; omega⟩
      · cases ha
    · split at ha
      · split at ha
        · cases ha; exact ⟨h1, h2, h3, h4⟩
        · cases ha
      · split at ha
        · cases ha; exact ⟨h1, h2, h3, h4⟩
        · cases ha; exact ⟨h1, h2, h3, h4⟩
theorem attrs_small (M : Nat) : ∀ (l : List (List UInt8)) (c d : Ck), Small M c → (∀ p ∈ l, p.length ≤ M) → attrs c l = some d → Small M d
  | [], c, d, h, _, ha => by cases ha; exact h
  | p :: l, c, d, h, hp, ha => by
    simp only [attrs] at ha
    cases e : attr c p with
    | none => rw [e] at ha; cases ha
    | some x => rw [e] at ha; exact attrs_small M l x d (attr_small M c x p h (hp p (by simp)) e) (fun q hq => hp q (by simp [hq])) ha
theorem cookie_small (t : List UInt8) (c : Ck) (h : cookieL t = some c) : Small t.length c := by
  unfold cookieL at h
  cases e : Ref.splitL 59 t with
  | nil => rw [e] at h; cases h
  | cons p r =>
    rw [e] at h
    have hle := Ref.split_small 59 t
    rw [e] at hle
    simp only at h
    cases hh : headC p with
    | none => rw [hh] at h; cases h
    | some c0 =>
      rw [hh] at h
      simp only at h
      unfold headC at hh
      have hp := hle p (by simp)
      split at hh
      · cases hh
        refine attrs_small t.length r _ _ ⟨?_, ?_, by simp, by simp⟩ (fun q hq => hle q (by simp [hq])) h
        · refine Nat.le_trans (trim_le _) (Nat.le_trans ?_ hp)
          exact (List.takeWhile_sublist _).length_le
        · exact Nat.le_trans (txt_le p) hp
      · cases hh
theorem parse_small (t : List UInt8) (c : Ck) (h : parseC t = .inr c) : Small t.length c := cookie_small t c (parse_ck t c h).1
theorem join_len (c : UInt8) : ∀ (l : List (List UInt8)) (p : List UInt8), (Ref.joinL c (p :: l)).length = p.length + (l.map fun q => q.length + 1).sum
  | [], p => by simp [Ref.joinL]
  | q :: l, p => by
    show (p ++ c :: Ref.joinL c (q :: l)).length = _
    rw [List.length_append, List.length_cons, join_len c l q, List.map_cons, List.sum_cons]
    omega
theorem text_len (c : Ck) (M : Nat) (h : Small M c) (h2 : c.age ≤ 1073741824) : (textC c).length ≤ 4 * M + 60 := by
  obtain ⟨g1, g2, g3, g4⟩ := h
  have hd : c.age.toNat < 10 ^ 10 := by omega
  have hdl := dig_short 10 c.age.toNat (by omega) hd
  unfold textC
  rw [join_len]
  simp only [List.map_append, List.sum_append, List.length_append, List.length_cons]
  have e1 : ((pathP c).map fun q => q.length + 1).sum ≤ M + 7 := by
    unfold pathP
    split
    · simp
    · simp; omega
  have e2 : ((domP c).map fun q => q.length + 1).sum ≤ M + 9 := by
    unfold domP
    split
    · simp
    · simp; omega
  have e3 : ((ageP c).map fun q => q.length + 1).sum ≤ 20 := by
    unfold ageP
    split
    · simp
    · simp; omega
  have e4 : ((secP c).map fun q => q.length + 1).sum ≤ 8 := by
    unfold secP
    split
    · simp
    · simp
  omega
/-- The text of what is parsed is parsed to the same. -/
theorem parse_back (t : List UInt8) (c : Ck) (hl : t.length ≤ 1000) (h : parseC t = .inr c) : parseC (textC c) = .inr c :=
  parse_text c (parse_ok t c h) (parse_ck t c h).2.2
theorem parse_form (t : List UInt8) (e : Int) (hl : t.length ≤ 1000) (h : parseC t = .inl e) : e = 2 := by
  unfold parseC at h
  rw [if_neg (by omega)] at h
  split at h
  · exact (Sum.inl.inj h).symm
  · rename_i d hd
    have := text_len d t.length (cookie_small t d hd) (cookie_ok t d hd).age2
    rw [if_neg (by omega)] at h
    cases h

/-! ### for whom it is meant -/
/-- Up to the last slash, with it. -/
def lastS (p : List UInt8) : List UInt8 := (p.reverse.dropWhile (· != 47)).reverse
def homeL (c : Ck) (p : List UInt8) : List UInt8 := if c.path = [] then (if 1 < (lastS p).length then (lastS p).dropLast else lastS p) else c.path
def slashL (h : List UInt8) : List UInt8 := if h.getLast? = some 47 then h else h ++ [47]
def hereB (h p : List UInt8) : Bool := decide (p = h) || (slashL h).isPrefixOf p
def httpsS : List UInt8 := [104, 116, 116, 112, 115]
def mayB (c : Ck) (host scheme : List UInt8) : Bool := (decide (c.dom = []) || Host.withinB host c.dom) && (!c.secure || decide (scheme = httpsS))
def meantB (c : Ck) (host1 path1 host2 path2 scheme2 : List UInt8) : Bool :=
  (decide (host2 = host1) || Host.withinB host2 c.dom) && (!c.secure || decide (scheme2 = httpsS)) && hereB (homeL c path1) path2
theorem from_nil (c : UInt8) : ∀ l : List (List UInt8), (∀ p ∈ l, p ≠ []) → [] ∉ Ref.fromL c l
  | [], _, h => by cases h
  | p :: r, hp, h => by
    unfold Ref.fromL at h
    rcases List.mem_cons.1 h with h | h
    · have hne := hp p (by simp)
      cases r with
      | nil => exact hne h.symm
      | cons q r =>
        have h' : ([] : List UInt8) = p ++ c :: Ref.joinL c (q :: r) := h
        simp at h'
    · exact from_nil c r (fun q hq => hp q (by simp [hq])) h
/-- No host goes up to nothing. -/
theorem within_nil (h : List UInt8) : Host.withinB h [] = false := by
  unfold Host.withinB Host.upL
  split
  · rename_i hc
    have hB : Host.hostB (Ref.splitL 46 h) = true := by
      have h0 := hc.1
      unfold Host.parseE at h0
      split at h0
      · cases h0
      · split at h0
        · assumption
        · cases h0
    have hne : ∀ p ∈ Ref.splitL 46 h, p ≠ [] := fun p hp e => by
      unfold Host.hostB at hB
      rw [Bool.and_eq_true, Bool.and_eq_true, List.all_eq_true] at hB
      have := hB.1.2 p hp
      subst e
      exact absurd this (by decide)
    rw [← Bool.not_eq_true, List.contains_iff_mem]
    split
    · intro hm
      have e := List.mem_singleton.1 hm
      subst e
      exact hne [] (by simp [Ref.splitL]) rfl
    · exact from_nil 46 _ hne
  · rfl
theorem last_pre (p : List UInt8) : ∃ q, p = lastS p ++ q := by
  refine ⟨(p.reverse.takeWhile (· != 47)).reverse, ?_⟩
  unfold lastS
  rw [← List.reverse_append, List.takeWhile_append_dropWhile, List.reverse_reverse]
theorem last_end (p : List UInt8) (h : (47 : UInt8) ∈ p) : ∃ r, lastS p = r ++ [47] := by
  unfold lastS
  have hd : ∀ l : List UInt8, (47 : UInt8) ∈ l → ∃ r, l.dropWhile (· != 47) = 47 :: r := by
    intro l
    induction l with
    | nil => intro h; cases h
    | cons x l ih =>
      intro h
      rw [List.dropWhile_cons]
      by_cases hx : x = 47
      · subst hx; exact ⟨l, by simp⟩
      · rw [if_pos (by simpa using hx)]
        exact ih ((List.mem_cons.1 h).resolve_left (fun e => hx e.symm))
  obtain ⟨r, hr⟩ := hd p.reverse (by simpa using h)
  exact ⟨r.reverse, by rw [hr]; simp⟩
/-- One that may be set is meant for where it was set, if it has no path. -/
theorem meant_self (c : Ck) (host path scheme : List UInt8) (h0 : c.path = []) (hp : path.head? = some 47) (h : mayB c host scheme = true) : meantB c host path host path scheme = true ∧ (homeL c path).head? = some 47 := by
  unfold mayB at h
  rw [Bool.and_eq_true] at h
  have hm : (47 : UInt8) ∈ path := by
    cases path with
    | nil => cases hp
    | cons x r => cases hp; simp
  obtain ⟨q, hq⟩ := last_pre path
  obtain ⟨r, hr⟩ := last_end path hm
  have hhd : (lastS path).head? = some 47 := by
    rw [hq] at hp
    cases hl : lastS path with
    | nil => rw [hr] at hl; simp at hl
    | cons x s => rw [hl] at hp; exact hp
  have hhome : hereB (homeL c path) path = true ∧ (homeL c path).head? = some 47 := by
    unfold homeL
    rw [if_pos h0]
    unfold hereB
    by_cases h1 : 1 < (lastS path).length
    · rw [if_pos h1, hr, List.dropLast_concat]
      have hr0 : r.head? = some 47 := by
        rw [hr] at hhd h1
        cases r with
        | nil => simp at h1
        | cons x s => exact hhd
      refine ⟨?_, hr0⟩
      rw [Bool.or_eq_true]
      right
      rw [List.isPrefixOf_iff_prefix]
      unfold slashL
      split
      · exact ⟨[47] ++ q, by rw [← List.append_assoc, ← hr]; exact hq.symm⟩
      · exact ⟨q, by rw [← hr]; exact hq.symm⟩
    · rw [if_neg h1]
      refine ⟨?_, hhd⟩
      rw [Bool.or_eq_true]
      right
      rw [List.isPrefixOf_iff_prefix]
      have hr1 : r = [] := by
        rw [hr] at h1
        cases r with
        | nil => rfl
        | cons x s => simp at h1
      rw [hr, hr1]
      refine ⟨q, ?_⟩
      have : slashL ([] ++ [47]) = [47] := by decide
      rw [this]
      rw [hr, hr1] at hq
      exact hq.symm
  refine ⟨?_, hhome.2⟩
  unfold meantB
  rw [hhome.1, h.2, decide_eq_true rfl]
  rfl
/-- Behind "/" and letters: for what goes on behind a slash. -/
theorem here_paths (p more : List UInt8) (slash : Bool) (hp : (47 : UInt8) ∉ p) (hm : (47 : UInt8) ∉ more) : hereB (47 :: p) (47 :: p ++ (if slash then [47] else []) ++ more) = (slash || more.isEmpty || p.isEmpty) := by
  unfold hereB
  have hlast : ∀ x, (47 :: p).getLast? = some x → p ≠ [] → x ∈ p := by
    intro x hx hne
    cases p with
    | nil => exact absurd rfl hne
    | cons y s =>
      rw [List.getLast?_cons_cons] at hx
      exact List.mem_of_getLast? hx
  by_cases h0 : p = []
  · subst h0
    have hs : slashL [47] = [47] := by decide
    rw [hs, List.isEmpty_nil, Bool.or_true, Bool.or_eq_true]
    right
    cases slash <;> simp
  · have hs : slashL (47 :: p) = 47 :: p ++ [47] := by
      unfold slashL
      rw [if_neg (fun h => hp (hlast 47 h h0))]
    rw [hs]
    have he : p.isEmpty = false := by cases p with
      | nil => exact absurd rfl h0
      | cons x s => rfl
    rw [he, Bool.or_false]
    cases slash with
    | true =>
      rw [Bool.true_or, Bool.or_eq_true]
      right
      rw [List.isPrefixOf_iff_prefix]
      exact ⟨more, by simp⟩
    | false =>
      cases more with
      | nil => simp
      | cons x s =>
        rw [Bool.false_or, List.isEmpty_cons]
        have hx : x ≠ 47 := fun e => hm (by rw [e]; simp)
        rw [Bool.or_eq_false_iff]
        refine ⟨by simp, ?_⟩
        rw [← Bool.not_eq_true, List.isPrefixOf_iff_prefix]
        rintro ⟨z, hz⟩
        have h2 : 47 :: p ++ ([47] ++ z) = 47 :: p ++ (x :: s) := by simpa using hz
        have h3 := List.append_cancel_left h2
        exact hx (List.cons.inj h3).1.symm
end Go.Proofs.YtdbpbfbjebjbeaaDoor.Ck

namespace Go.Proofs.YtdbpbfbjebjbeaaDoor
open Go.RowKit Go.Shelf

/-- The example's text, laid; its bytes. -/
theorem bytes_lit {w : World} (cs : Array Value) (l : List UInt8) (fr : Nat × Nat) (h : cs.toList = (Lib.numsL l).map (Value.int .u8)) : Lib.BytesIn (w.alloc (.cells cs 5 fr)) (some ⟨w.heap.size, 0, none⟩) l.length (Lib.numsL l) := fun _ =>
  ⟨_, _, rfl, fun i hi => by
    have hi' : i < (Lib.numsL l).length := by rw [Lib.numsL_length]; exact hi
    rw [Nat.zero_add, World.cell?_alloc_mark, ← Array.getElem?_toList, h]
    simp [List.getElem?_eq_getElem hi', List.getD]⟩
end Go.Proofs.YtdbpbfbjebjbeaaDoor

namespace Go.Proofs.YtdbpbfbjebjbeaaDoor
open Go.RowKit Go.Shelf

/-- The pieces of a text, out of their bounds. -/
def piecesOf (l : List UInt8) (xs : List (Nat × Nat)) : List (List UInt8) := xs.map fun x => sub l x.1 x.2
theorem sub_snoc (l : List UInt8) (f k : Nat) (hf : f ≤ k) (hk : k < l.length) : sub l f (k + 1) = sub l f k ++ [l.getD k 0] := by
  unfold sub
  rw [show k + 1 - f = (k - f) + 1 from by omega, List.take_succ_eq_append_getElem (by simp; omega)]
  simp [List.getD, List.getElem?_eq_getElem hk]
  congr 1
  omega
theorem sub_nil (l : List UInt8) (k : Nat) : sub l k k = [] := by unfold sub; simp

end Go.Proofs.YtdbpbfbjebjbeaaDoor

namespace Go.Proofs.YtdbpbfbjebjbeaaDoor.Ck
open Url Hdr
set_option linter.unusedVariables false

/-- A byte as a letter. -/
def nameB (b : UInt8) : UInt8 := 97 + b % 26
def nameL (t : List UInt8) : List UInt8 := t.map nameB
def Lets (l : List UInt8) : Prop := ∀ b ∈ l, 97 ≤ b.toNat ∧ b.toNat ≤ 122
theorem name_num (b : UInt8) : (nameB b).toNat = 97 + b.toNat % 26 := by
  unfold nameB
  rw [UInt8.toNat_add, UInt8.toNat_mod]
  have : b.toNat % 26 < 26 := Nat.mod_lt _ (by decide)
  simp only [UInt8.reduceToNat]
  omega
theorem name_lets (t : List UInt8) : Lets (nameL t) := fun b hb => by
  obtain ⟨x, -, rfl⟩ := List.mem_map.1 hb
  rw [name_num]
  have : x.toNat % 26 < 26 := Nat.mod_lt _ (by decide)
  omega
theorem lets_no {l : List UInt8} (h : Lets l) (d : UInt8) (hd : d.toNat < 97) : d ∉ l := fun hm => by
  have := h d hm
  omega
theorem lets_app {l m : List UInt8} (h : Lets l) (k : Lets m) : Lets (l ++ m) := fun b hb => by
  rcases List.mem_append.1 hb with hb | hb
  · exact h b hb
  · exact k b hb
theorem items_let : ∀ l : List UInt8, Lets l → Pct.itemsL l = some (l.map fun b => (b, false))
  | [], _ => rfl
  | b :: r, h => by
    have hb := h b (by simp)
    rw [Pct.items_as b r (fun e => by subst e; exact absurd hb.1 (by decide)), items_let r (fun x hx => h x (by simp [hx]))]
    rfl
theorem free_let (b : UInt8) (h : 97 ≤ b.toNat ∧ b.toNat ≤ 122) : Pct.freeB b = true := by
  unfold Pct.freeB Pct.letB
  simp [h.1, h.2]
theorem can_let : ∀ l : List UInt8, Lets l → Pct.canL 1 (l.map fun b => (b, false)) = l
  | [], _ => rfl
  | b :: r, h => by
    have hb := h b (by simp)
    have ih := can_let r (fun x hx => h x (by simp [hx]))
    unfold Pct.canL at ih ⊢
    rw [List.map_cons, List.flatMap_cons, ih]
    unfold Pct.canB Pct.putL
    simp [free_let b hb]
theorem form_let (l : List UInt8) (h : Lets l) : formL 1 l = some l := by
  unfold formL
  rw [items_let l h, Option.map_some, can_let l h]
theorem dot_let (l : List UInt8) (h : Lets l) : dotB l = false := by
  unfold dotB
  rw [decide_eq_false, decide_eq_false, Bool.or_false]
  · rintro rfl; exact absurd (h 46 (by simp)).1 (by decide)
  · rintro rfl; exact absurd (h 46 (by simp)).1 (by decide)
theorem piece_let (l : List UInt8) (h : Lets l) : formL 1 l = some l ∧ 47 ∉ l ∧ 63 ∉ l ∧ 35 ∉ l ∧ dotB l = false :=
  ⟨form_let l h, lets_no h 47 (by decide), lets_no h 63 (by decide), lets_no h 35 (by decide), dot_let l h⟩
/-- A path of letters, with a slash perhaps and letters behind. -/
def toL (p more : List UInt8) (slash : Bool) : List UInt8 := 47 :: p ++ (if slash then [47] else []) ++ more
theorem to_ok (p more : List UInt8) (slash : Bool) (hp : Lets p) (hm : Lets more) : PathOk (toL p more slash) := by
  cases slash with
  | false => exact ⟨[p ++ more], by simp, by simp [toL, Ref.joinL], fun x hx => by simp only [List.mem_singleton] at hx; subst hx; exact piece_let _ (lets_app hp hm)⟩
  | true => exact ⟨[p, more], by simp, by simp [toL, Ref.joinL], fun x hx => by
      simp only [List.mem_cons, List.not_mem_nil, or_false] at hx
      rcases hx with rfl | rfl
      · exact piece_let _ hp
      · exact piece_let _ hm⟩
/-- A URL of one letter's host. -/
def hostU (h : UInt8) (path : List UInt8) : U := ⟨httpS, [h], 80, path, [], [], false, false⟩
theorem host_ok (h : UInt8) (path : List UInt8) (hh : Host.parseE [h] = 0) (hl : Ref.lowL [h] = [h]) (hp : PathOk path) : Url.Ok (hostU h path) :=
  { scheme := .inl rfl, host := hh, low := hl, port1 := (by decide : 1 ≤ 80), port2 := (by decide : 80 ≤ 65535), path := hp, query := rfl, noq := fun _ => rfl, frag := rfl, nof := fun _ => rfl }
theorem host_text (h : UInt8) (path : List UInt8) : textU (hostU h path) = [104, 116, 116, 112, 58, 47, 47, h] ++ path := by
  simp [textU, hostU, portT, queryT, fragT, ownP, httpS]
theorem host_parse (h : UInt8) (path : List UInt8) (hh : Host.parseE [h] = 0) (hl : Ref.lowL [h] = [h]) (hp : PathOk path) (hn : path.length ≤ 4000) : parseU ([104, 116, 116, 112, 58, 47, 47, h] ++ path) = .inr (hostU h path) := by
  rw [← host_text]
  exact Url.parse_text _ (host_ok h path hh hl hp) (by rw [host_text]; simp; omega)
theorem lets_blank (b : UInt8) (h : 97 ≤ b.toNat ∧ b.toNat ≤ 122) : blankB b = false := by
  cases hb : blankB b with
  | false => rfl
  | true =>
    have : b.toNat ≤ 96 := by
      unfold blankB at hb
      have := of_decide_eq_true hb
      omega
    omega
/-- A cookie of a path. -/
def pathC (p : List UInt8) : Ck := ⟨[97], [49], 47 :: p, [], -1, false⟩
theorem path_text (p : List UInt8) : textC (pathC p) = [97, 61, 49, 59, 32, 80, 97, 116, 104, 61] ++ 47 :: p := by
  simp [textC, pathC, pathP, domP, ageP, secP, Ref.joinL]
theorem path_ckok (p : List UInt8) (h : Lets p) : Ck.Ok (pathC p) :=
  { name := (by decide : tokL [97] = true), value := (by decide : [(49 : UInt8)].all valB = true), path := .inr ⟨rfl, trim_nob _ (fun b hb => by
      rcases List.mem_cons.1 hb with rfl | hb
      · decide
      · have := h b hb
        exact lets_blank b this), fun hm => by
      rcases List.mem_cons.1 hm with h' | h'
      · exact absurd h' (by decide)
      · exact lets_no h 59 (by decide) h'⟩, dom := .inl rfl, age1 := (by decide : (-1 : Int) ≤ -1), age2 := (by decide : (-1 : Int) ≤ 1073741824) }
theorem path_parse (p : List UInt8) (h : Lets p) (hn : p.length ≤ 4000) : parseC ([97, 61, 49, 59, 32, 80, 97, 116, 104, 61] ++ 47 :: p) = .inr (pathC p) := by
  rw [← path_text]
  exact Ck.parse_text _ (path_ckok p h) (by rw [path_text]; simp; omega)
theorem path_small (p : List UInt8) (hn : p.length ≤ 4000) : Small 4096 (pathC p) := ⟨by simp [pathC], by simp [pathC], by simp [pathC]; omega, by simp [pathC]⟩
theorem path_meant (p more : List UInt8) (slash : Bool) (h1 h2 : UInt8) (q : List UInt8) (hp : Lets p) (hm : Lets more) :
    meantB (pathC p) (hostU h1 q).host (hostU h1 q).path (hostU h2 (toL p more slash)).host (hostU h2 (toL p more slash)).path (hostU h2 (toL p more slash)).scheme = (decide (h1 = h2) && (slash || more.isEmpty || p.isEmpty)) := by
  have hx := here_paths p more slash (lets_no hp 47 (by decide)) (lets_no hm 47 (by decide))
  unfold meantB
  have e : homeL (pathC p) (hostU h1 q).path = 47 :: p := by simp [homeL, pathC]
  rw [e]
  simp only [pathC, hostU, toL] at hx ⊢
  rw [hx, within_nil]
  by_cases h12 : h1 = h2
  · subst h12; simp
  · have : ¬ [h2] = [h1] := fun h => h12 (List.cons.inj h).1.symm
    simp [h12, this]
end Go.Proofs.YtdbpbfbjebjbeaaDoor.Ck

namespace Go.Proofs.YtdbpbfbjebjbeaaDoor
open Go.RowKit Go.Shelf

theorem splitOf_len (l : List UInt8) (xs : List (Nat × Nat)) : (splitOf l xs).length = xs.length := by simp [splitOf]
theorem splitX_num (c : UInt8) (l : List UInt8) (pre : List (Nat × List UInt8)) (x : Nat × List UInt8) (rest : List (Nat × List UInt8)) (h : splitX c l = pre ++ x :: rest) : x.1 = pre.length := by
  have h1 : (splitX c l)[pre.length]? = some x := by rw [h]; simp
  unfold splitX splitOf at h1
  rw [List.getElem?_map, List.getElem?_zipIdx] at h1
  cases hx : (spansL (isB c) l)[pre.length]? with
  | none => rw [hx] at h1; simp at h1
  | some y => rw [hx] at h1; simp at h1; rw [← h1]
theorem splitX_small (c : UInt8) (l : List UInt8) (n : Nat) (h : l.length = n) : ∀ x ∈ splitX c l, x.2.length ≤ n := by
  intro x hx
  unfold splitX splitOf at hx
  obtain ⟨y, hy, rfl⟩ := List.mem_map.1 hx
  have hb := spansL_bounds (isB c) l y.1 (List.fst_mem_of_mem_zipIdx hy)
  simp only
  rw [sub_length _ _ _ hb.2]
  omega
theorem splitX_len (c : UInt8) (l : List UInt8) : (splitX c l).length ≤ l.length + 1 := by
  unfold splitX
  rw [splitOf_len]
  exact spansGo_len _ _ _ _

theorem Split_iter {w w' : World} {B n : Nat} {c : UInt8} {v' : Value} {l : List UInt8} (hn : n ≤ 140737488355328) (hB : Boxed w' B 22 v') (hBc : Boxed w' w.heap.size 5 (.int .u8 (c.toNat : Int))) (hrow : w'.ownsRow (w.heap.size + 1) 5 1 v' n ((Lib.numsL l).map (Value.int .u8))) :
    IterC Tryd.prog 47 #[.pointer (some ⟨B, 0, none⟩), .pointer (some ⟨w.heap.size, 0, none⟩)] NumRowArg (splitX c l) (fun b => b = B ∨ b = w.heap.size ∨ v'.ownBlock = some b) w' := by
  obtain ⟨q, cc, rfl, hl, hnc, _, hbs, hblk⟩ := row_open hrow
  exact Split1_iter B w.heap.size c q n cc l _ w' hl hn hnc hbs (fun a ha _ => .inr (.inr (hblk a ha).2.2)) hB (.inl rfl) hBc (.inr (.inl rfl)) (fun b hb => by
    rcases hb with rfl | rfl | hb
    · exact hB.lt
    · exact hBc.lt
    · exact (hrow.lt b hb).2)

theorem info_u8 : (Tryd.prog.info? 5).map (fun i => (i.zero, i.size, i.bytes)) = some (some (.int .u8 0), 1, 1) := by kernel_rfl

/-- 'append(dst, src...)', dst the call's own, src whatever slice of bytes. -/
theorem wpList_append_bytes {ops : Array Oper} {rest : List Oper} {o : Oper} {a : Act} {w : World} {Q : Exit → Act → World → Prop} (hgd : o.guard = none) (s x : Operand)
    (ho : o.op = .call { callee := .builtin .append, args := #[s, x], argTypes := #[22, 22] })
    (base : Nat) (v : Value) (n : Nat) (xs : List Value) (hs : a.eval s = v) (hown : w.ownsRow base 5 1 v n xs) (p : Option Addr) (m c : Nat) (bs : List UInt8) (hx : a.eval x = .slice p m c) (hp : p = none → m = 0 ∧ c = 0)
    (hl : bs.length = m) (hb : Lib.BytesIn w p m (Lib.numsL bs)) (h47 : n + m ≤ 140737488355328) (hbase : base ≤ w.heap.size)
    (h : ∀ v' w', w'.ownsRow base 5 1 v' (n + m) (xs ++ (Lib.numsL bs).map (Value.int .u8)) → w.grownBy w' v.ownBlock → wpList Tryd.prog ops Q rest (a.put o.dst v') w') : wpList Tryd.prog ops Q (o :: rest) a w := by
  obtain ⟨i0, hi0, hz0, hz1, hz2⟩ := info_parts info_u8
  cases p with
  | none =>
    obtain ⟨rfl, rfl⟩ := hp rfl
    obtain rfl : bs = [] := List.eq_nil_of_length_eq_zero hl
    refine wpList_append_own_none hgd s x _ ho base 5 i0 1 Tryd.underlying22 hi0 v n xs hs hown hx (h v w ?_ ⟨rfl, rfl, rfl, Nat.le_refl _, fun _ _ _ => rfl⟩)
    simpa [Lib.numsL] using hown
  | some ad =>
    refine wpList_append_own w hgd s x _ ho base 5 i0 (.int .u8 0) 1 1 Tryd.underlying22 hi0 hz0 hz1 hz2 rfl (by decide) v n xs hs hown ad m c ((Lib.numsL bs).map (Value.int .u8)) hx (by simp [Lib.numsL, hl]) (fun j u hj => ?_) (by simp [Lib.numsL, Value.oneCell']) (by unfold maxLen; omega) (by omega) hbase (fun v' w' h1 h2 _ => h v' w' h1 h2)
    rcases Nat.lt_or_ge j m with h' | h'
    · obtain ⟨b, o, he, hcc⟩ := hb.at (by omega)
      cases he
      have hj' : j < (Lib.numsL bs).length := by rw [Lib.numsL_length]; omega
      rw [Go.WideShapes.add_plain, hcc j h']
      rw [List.getElem?_map, List.getElem?_eq_getElem hj'] at hj
      simp only [Option.map_some, Option.some.injEq] at hj
      rw [← hj, List.getD, List.getElem?_eq_getElem hj']
      rfl
    · rw [List.getElem?_eq_none (by rw [List.length_map, Lib.numsL_length]; omega)] at hj
      cases hj

end Go.Proofs.YtdbpbfbjebjbeaaDoor

namespace Go.Proofs.YtdbpbfbjebjbeaaDoor
open Go.RowKit Go.Shelf

/-- A text with small letters. -/
def lowL (l : List UInt8) : List UInt8 := l.map low
theorem lowL_length (l : List UInt8) : (lowL l).length = l.length := by simp [lowL]
theorem lowL_getD (l : List UInt8) (k : Nat) (h : k < l.length) : (lowL l).getD k 0 = low (l.getD k 0) := by simp [lowL, List.getD, List.getElem?_eq_getElem h]
set_option maxRecDepth 100000 in
set_option maxHeartbeats 2000000 in
theorem Lower_any (q : Option Addr) (n c : Nat) (l : List UInt8) (w : World) (hl : l.length = n) (hn : n ≤ 140737488355328) (hb : Lib.BytesIn w q n (Lib.numsL l)) :
    Calls Tryd.prog 34 #[.slice q n c] w fun e w' => ∃ v', e = .returned v' ∧ w'.ownsRow w.heap.size 5 1 v' n ((Lib.numsL (lowL l)).map (Value.int .u8)) ∧ Below w.heap.size w w' := by
  obtain ⟨i0, hi0, hz0, hz1, hz2⟩ := info_parts info_u8
  have HL := Lib.hid hl
  clear hl
  go_enter Tryd.func34, Tryd.ntmps34
  go_wp2_with (at_make; refine wpList_make_full _ rfl _ _ 22 rfl w.heap.size 5 i0 (.int .u8 0) 1 Tryd.underlying22 hi0 hz0 hz1 .i64 .i64 _ _ n rfl rfl rfl rfl (by rw [hz2]; omega) (by unfold maxLen; omega) (Nat.le_refl _) ?_; intro w1 hown hgrow)
  have hbel : Below w.heap.size w w1 := (Below.refl _ _).grown hgrow (Nat.le_refl _) (fun _ h => by cases h)
  obtain ⟨cur0, hg0, hs0⟩ : ∃ cur, w1.heap[w.heap.size]? = some (.cells cur 5 (0, 0)) ∧ cur.size = n := by
    rcases hown.2 with ⟨h1, _⟩ | ⟨g, cap, cur, h1, _, hg, _, _, h3, _⟩
    · cases h1
    · cases h1; exact ⟨cur, hg, by simpa using h3⟩
  clear hown hgrow
  go_loopw [11] (fun i wr => ∃ k : Nat, ∃ cur : Array Value, k ≤ n ∧ i = .int .i64 k ∧ Below w.heap.size w wr ∧ wr.heap[w.heap.size]? = some (.cells cur 5 (0, 0)) ∧ Hid (cur.size = n) ∧ Hid (∀ j, j < k → cur[j]? = some (.int .u8 ((low (l.getD j 0)).toNat : Int)))) (fun i _ => n - (intOf i).toNat)
  case atStart => exact ⟨0, cur0, Nat.zero_le _, rfl, hbel, hg0, hs0, fun j hj => absurd hj (Nat.not_lt_zero _)⟩
  case round =>
    obtain ⟨k, cur, hk, rfl, hbr, hg, HS, HC⟩ := hrel
    by_cases hlt : k < n
    · obtain ⟨b, o, rfl, hc⟩ := hb.at (by omega)
      have hck : wr.cell? ⟨b, o + k, none⟩ = some (.int .u8 ((l.getD k 0).toNat : Int)) := by
        rw [← numsL_getD l k (by rw [HL.out]; exact hlt), ← hc k hlt]
        exact hbr.cell (World.block_lt_of_cell? w _ (hc k hlt))
      have hkc : k < cur.size := by rw [HS.out]; exact hlt
      have hgk : wr.cell? ⟨w.heap.size, k, none⟩ = some cur[k] := by simp [World.cell?, hg, Array.getElem?_eq_getElem hkc]
      have hfk : wr.frozen? ⟨w.heap.size, k, none⟩ = false := by simp [World.frozen?, hg]
      have HG := Lib.hid hg
      obtain ⟨bk, HB⟩ : ∃ bk, Hid (bk = l.getD k 0) := ⟨_, rfl⟩
      rw [← HB.out] at hck
      have hk1 := lowerByte_any bk
      obtain ⟨y, HY⟩ : ∃ y, Hid (y = low bk) := ⟨_, rfl⟩
      rw [← HY.out] at hk1
      clear hc hb hg
      generalize cur[k] = cv at hgk
      go_wp2_with (go_at_call 55; refine (hk1 _).mono ?_; rintro e w' ⟨rfl, rfl⟩)
      go_roundw
      case rel =>
        refine ⟨k + 1, cur.setIfInBounds k (.int .u8 (y.toNat : Int)), by omega, by go_num, hbr.setCell (p := ⟨w.heap.size, k, none⟩) (Nat.le_refl _) _, Joins.block_setCell HG.out _, ?_, fun j hj => ?_⟩
        · show (cur.setIfInBounds k _).size = n
          rw [Array.size_setIfInBounds]; exact HS.out
        · by_cases hjk : j = k
          · subst hjk
            rw [Array.getElem?_setIfInBounds_self_of_lt hkc, HY.out, HB.out]
          · rw [Array.getElem?_setIfInBounds_ne (Ne.symm hjk)]
            exact HC.out j (by omega)
      case measure => simp [intOf]; omega
    · have hkn : k = n := by omega
      have hrow : wr.ownsRow w.heap.size 5 1 (.slice (some ⟨w.heap.size, 0, none⟩) n n) n ((Lib.numsL (lowL l)).map (Value.int .u8)) := by
        refine ⟨by rw [List.length_map, Lib.numsL_length, lowL_length, HL.out, Nat.mul_one], .inr ⟨w.heap.size, n, cur, rfl, Nat.le_refl _, hg, Nat.le_refl _, by unfold maxLen; omega, by rw [HS.out, Nat.mul_one], ?_⟩⟩
        have hcs := HS.out
        have hll := HL.out
        apply List.ext_getElem?
        intro j
        rw [Nat.mul_one, List.take_of_length_le (by rw [Array.length_toList, hcs]; exact Nat.le_refl _), Array.getElem?_toList]
        rcases Nat.lt_or_ge j n with hj | hj
        · have hj' : j < (Lib.numsL (lowL l)).length := by rw [Lib.numsL_length, lowL_length, hll]; exact hj
          have hn1 := numsL_getD (lowL l) j (by rw [lowL_length, hll]; exact hj)
          rw [lowL_getD l j (by rw [hll]; exact hj), List.getD, List.getElem?_eq_getElem hj', Option.getD_some] at hn1
          rw [HC.out j (by omega), List.getElem?_map, List.getElem?_eq_getElem hj', Option.map_some, hn1]
        · rw [Array.getElem?_eq_none (by omega), List.getElem?_eq_none (by rw [List.length_map, Lib.numsL_length, lowL_length, hll]; exact hj)]
      clear HS HC hg hkn
      go_wp2
      go_ret
      exact ⟨_, rfl, hrow, hbr⟩

/-- Equal but for great and small letters. -/
def sameLow (x y : List UInt8) : Bool := decide (lowL x = lowL y)

theorem Same1_any (a b : UInt8) (w : World) : Calls Tryd.prog 78 #[.int .u8 (a.toNat : Int), .int .u8 (b.toNat : Int)] w fun e w' => e = .returned (.bool (isB (low b) (low a))) ∧ w = w' := by
  have h1 := lowerByte_any a
  have h2 := lowerByte_any b
  have hx := u8_lt (low a)
  have hy := u8_lt (low b)
  generalize low a = x at *
  generalize low b = y at *
  have H := Lib.hid (show isB y x = ((x.toNat : Int) == (y.toNat : Int)) by unfold isB; rw [Bool.eq_iff_iff, beq_iff_eq, beq_iff_eq, ← UInt8.toNat_inj]; omega)
  go_enter Tryd.func78, Tryd.ntmps78
  go_wp2_with fail
  refine (h1 _).mono ?_
  rintro e w' ⟨rfl, rfl⟩
  go_wp2_with fail
  refine (h2 _).mono ?_
  rintro e w' ⟨rfl, rfl⟩
  go_wp2
  go_ret
  exact ⟨(by rw [H.out]; try rfl), rfl⟩

set_option maxRecDepth 100000 in
set_option maxHeartbeats 2000000 in
theorem EqualFunc_any (p1 p2 : Option Addr) (n c m d : Nat) (xs ys : List UInt8) (w : World) (hx : xs.length = n) (hy : ys.length = m) (hn : n ≤ 140737488355328) (hm : m ≤ 140737488355328) (h1 : Lib.BytesIn w p1 n (Lib.numsL xs)) (h2 : Lib.BytesIn w p2 m (Lib.numsL ys)) :
    Calls Tryd.prog 77 #[.slice p1 n c, .slice p2 m d, .func (.func 78) #[] #[]] w fun e w' => e = .returned (.bool (sameLow xs ys)) ∧ w = w' := by
  by_cases hnm : n = m
  · subst hnm
    have e0 : ((n : Int) != (n : Int)) = false := by simp
    go_enter Tryd.func77, Tryd.ntmps77
    go_wp2
    go_loop [17] (fun i => ∃ k : Nat, k ≤ n ∧ i = .int .i64 k ∧ Hid (sameLow xs ys = sameLow (xs.drop k) (ys.drop k))) (fun i => n - (intOf i).toNat)
    case atStart => exact ⟨0, Nat.zero_le _, rfl, rfl⟩
    case round =>
      obtain ⟨k, hk, rfl, HR⟩ := hrel
      by_cases hlt : k < n
      · obtain ⟨b1, o1, rfl, hc1⟩ := h1.at (by omega)
        obtain ⟨b2, o2, rfl, hc2⟩ := h2.at (by omega)
        have c1 := hc1 k hlt
        have c2 := hc2 k hlt
        rw [numsL_getD _ _ (by omega)] at c1 c2
        have d1 := drop_cons xs k (by omega)
        have d2 := drop_cons ys k (by omega)
        clear hc1 hc2 h1 h2 e0
        generalize xs.getD k 0 = x at c1 d1
        generalize ys.getD k 0 = y at c2 d2
        have hs := Same1_any x y w
        by_cases hxy : low x = low y
        · have HR2 := Lib.hid (show sameLow xs ys = sameLow (xs.drop (k + 1)) (ys.drop (k + 1)) by rw [HR.out, d1, d2]; unfold sameLow lowL; simp [hxy])
          rw [show isB (low y) (low x) = true from by unfold isB; rw [beq_iff_eq]; exact hxy] at hs
          clear d1 d2 HR hxy
          go_wp2_with (go_at_call 78; refine hs.mono ?_; rintro e w' ⟨rfl, hw⟩; subst hw)
          go_round
          case rel => exact ⟨k + 1, by omega, by go_num, HR2⟩
          case measure => simp [intOf]; omega
        · have H := Lib.hid (show sameLow xs ys = false by rw [HR.out, d1, d2]; unfold sameLow lowL; simp [hxy])
          rw [show isB (low y) (low x) = false from by unfold isB; rw [beq_eq_false_iff_ne]; exact hxy] at hs
          clear d1 d2 HR hxy
          go_wp2_with (go_at_call 78; refine hs.mono ?_; rintro e w' ⟨rfl, hw⟩; subst hw)
          go_ret
          exact ⟨(by rw [H.out]; try rfl), rfl⟩
      · have H := Lib.hid (show sameLow xs ys = true by rw [HR.out, List.drop_of_length_le (by omega), List.drop_of_length_le (by omega)]; rfl)
        clear HR
        go_wp2
        go_ret
        exact ⟨(by rw [H.out]; try rfl), rfl⟩
  · have e0 : ((n : Int) != (m : Int)) = true := by rw [bne_iff_ne]; omega
    have H := Lib.hid (show sameLow xs ys = false by unfold sameLow; rw [decide_eq_false_iff_not]; intro h; apply hnm; rw [← hx, ← hy, ← lowL_length xs, ← lowL_length ys, h])
    go_enter Tryd.func77, Tryd.ntmps77
    go_wp2
    go_ret
    exact ⟨(by rw [H.out]; try rfl), rfl⟩

theorem cutSame_any (p1 p2 : Option Addr) (n c m d : Nat) (xs ys : List UInt8) (w : World) (hx : xs.length = n) (hy : ys.length = m) (hn : n ≤ 140737488355328) (hm : m ≤ 140737488355328) (h1 : Lib.BytesIn w p1 n (Lib.numsL xs)) (h2 : Lib.BytesIn w p2 m (Lib.numsL ys)) :
    Calls Tryd.prog 53 #[.slice p1 n c, .slice p2 m d] w fun e w' => e = .returned (.bool (sameLow xs ys)) ∧ w = w' := by
  have con := EqualFunc_any p1 p2 n c m d xs ys w hx hy hn hm h1 h2
  clear h1 h2
  go_enter Tryd.func53, Tryd.ntmps53
  go_wp2_with (go_at_call 77; refine con.mono ?_; rintro e w' ⟨rfl, rfl⟩)
  go_ret
  exact ⟨rfl, rfl⟩

end Go.Proofs.YtdbpbfbjebjbeaaDoor

namespace Go.Proofs.YtdbpbfbjebjbeaaDoor
open Go.RowKit Go.Shelf

theorem index_at : ∀ (l : List UInt8) (c : UInt8) (k : Nat), k < l.length → l.getD k 0 = c → (∀ j, j < k → l.getD j 0 ≠ c) → Lib.indexByte l c = (k : Int)
  | [], _, k, h, _, _ => absurd h (Nat.not_lt_zero k)
  | x :: r, c, 0, _, h, _ => by
    have : x = c := h
    subst this
    simp [Lib.indexByte]
  | x :: r, c, k + 1, h, hk, hj => by
    have hx : x ≠ c := hj 0 (Nat.succ_pos k)
    have ih := index_at r c k (by simpa using h) hk (fun j hjk => hj (j + 1) (by omega))
    unfold Lib.indexByte
    rw [if_neg (by simpa using hx), ih]
    simp
theorem index_no : ∀ (l : List UInt8) (c : UInt8), (∀ j, j < l.length → l.getD j 0 ≠ c) → Lib.indexByte l c = -1
  | [], _, _ => rfl
  | x :: r, c, h => by
    have hx : x ≠ c := h 0 (Nat.succ_pos _)
    have ih := index_no r c (fun j hj => h (j + 1) (by simpa using hj))
    unfold Lib.indexByte
    rw [if_neg (by simpa using hx), ih]
    simp

def atFst (b : UInt8) (l : List UInt8) : List UInt8 := if 0 ≤ Lib.indexByte l b then l.take (Lib.indexByte l b).toNat else l
def atSnd (b : UInt8) (l : List UInt8) : List UInt8 := if 0 ≤ Lib.indexByte l b then l.drop ((Lib.indexByte l b).toNat + 1) else []
def atOk (b : UInt8) (l : List UInt8) : Bool := decide (0 ≤ Lib.indexByte l b)
theorem at_found (b : UInt8) (l : List UInt8) (k : Nat) (h : Lib.indexByte l b = (k : Int)) : atFst b l = l.take k ∧ atSnd b l = l.drop (k + 1) ∧ atOk b l = true := by
  unfold atFst atSnd atOk
  rw [h]
  simp
theorem at_none (b : UInt8) (l : List UInt8) (h : Lib.indexByte l b = -1) : atFst b l = l ∧ atSnd b l = [] ∧ atOk b l = false := by
  unfold atFst atSnd atOk
  rw [h]
  simp
end Go.Proofs.YtdbpbfbjebjbeaaDoor

namespace Go.Proofs.YtdbpbfbjebjbeaaDoor

theorem piecesOf_cons (l : List UInt8) (x : Nat × Nat) (r : List (Nat × Nat)) : piecesOf l (x :: r) = sub l x.1 x.2 :: piecesOf l r := rfl
theorem pieces_go (c : UInt8) (l : List UInt8) : ∀ (r : List UInt8) (i f : Nat), l.drop i = r → f ≤ i → i ≤ l.length → piecesOf l (spansGo (isB c) r i f) = Ref.onto (sub l f i) (Ref.splitL c r)
  | [], i, f, _, _, _ => by
    unfold spansGo
    rw [piecesOf_cons]
    simp [piecesOf, Ref.splitL, Ref.onto]
  | b :: r, i, f, hd, hf, hi => by
    have hlt : i < l.length := by
      rcases Nat.lt_or_ge i l.length with h | h
      · exact h
      · rw [List.drop_of_length_le h] at hd; cases hd
    have hdc := drop_cons l i hlt
    rw [hd] at hdc
    simp only [List.cons.injEq] at hdc
    have hb : b = l.getD i 0 := hdc.1
    have hr : l.drop (i + 1) = r := hdc.2.symm
    by_cases h : b = c
    · have hp : isB c b = true := by unfold isB; rw [beq_iff_eq]; exact h
      have e : spansGo (isB c) (b :: r) i f = (f, i) :: spansGo (isB c) r (i + 1) (i + 1) := by conv => lhs; unfold spansGo; rw [if_pos hp]
      rw [e, piecesOf_cons, pieces_go c l r (i + 1) (i + 1) hr (Nat.le_refl _) hlt, sub_nil, h, Ref.split_is, Ref.onto_nil _ (Ref.split_ne c r)]
      simp [Ref.onto]
    · have hp : ¬ isB c b = true := by unfold isB; rw [beq_iff_eq]; exact h
      have e : spansGo (isB c) (b :: r) i f = spansGo (isB c) r (i + 1) f := by conv => lhs; unfold spansGo; rw [if_neg hp]
      rw [e, pieces_go c l r (i + 1) f hr (by omega) hlt, sub_snoc l f i hf hlt, Ref.split_not c b r h, ← hb, Ref.onto_onto _ _ _ (Ref.split_ne c r)]
theorem pieces_split (c : UInt8) (l : List UInt8) : piecesOf l (spansL (isB c) l) = Ref.splitL c l := by
  unfold spansL
  rw [pieces_go c l l 0 0 (List.drop_zero) (Nat.le_refl _) (Nat.zero_le _), sub_nil, Ref.onto_nil _ (Ref.split_ne c l)]

theorem digit_dec (b : UInt8) : digitB b = Ref.decB b := rfl
theorem numGo_ref (most : Int) : ∀ (l : List UInt8) (n : Int), numGo most l n = Ref.numGo most l n
  | [], _ => rfl
  | b :: r, n => by
    unfold numGo Ref.numGo
    rw [digit_dec, numGo_ref most r]
theorem numOf_ref (most : Int) (l : List UInt8) : numOf most l = Ref.numOf most l := by
  unfold numOf Ref.numOf
  rw [numGo_ref]

end Go.Proofs.YtdbpbfbjebjbeaaDoor

namespace Go.Proofs.YtdbpbfbjebjbeaaDoor
open Go.RowKit Go.Shelf

theorem bytesOf_numsL (l : List UInt8) : Lib.bytesOf (Lib.numsL l) = l := by
  unfold Lib.bytesOf Lib.numsL
  rw [List.map_map]
  conv => rhs; rw [← List.map_id l]
  apply List.map_congr_left
  intro b _
  simp

theorem IndexByte_any (q : Option Addr) (n c : Nat) (l : List UInt8) (b : UInt8) (w : World) (hl : l.length = n) (hq : q = none → n = 0 ∧ c = 0) (h : Lib.BytesIn w q n (Lib.numsL l)) :
    Calls Tryd.prog 43 #[.slice q n c, .int .u8 (b.toNat : Int)] w fun e w' => e = .returned (.int .i64 (Lib.indexByte l b)) ∧ w' = w := by
  cases q with
  | none =>
    obtain ⟨rfl, rfl⟩ := hq rfl
    obtain rfl : l = [] := List.eq_nil_of_length_eq_zero hl
    exact Tryd.bytes_IndexByte_nil (b.toNat : Int) w
  | some a =>
    have h1 := Tryd.bytes_IndexByte_at a n c (Lib.numsL l) (b.toNat : Int) w (by rw [Lib.numsL_length, hl]) (fun i hi => by
      obtain ⟨b', o, he, hc⟩ := h.at (by omega)
      cases he
      rw [Go.WideShapes.add_plain]
      exact hc i hi)
    rw [bytesOf_numsL, show (b.toNat : Int).toNat.toUInt8 = b from by simp] at h1
    exact h1

theorem index_lt : ∀ (l : List UInt8) (c : UInt8), Lib.indexByte l c < (l.length : Int)
  | [], _ => by simp [Lib.indexByte]
  | x :: r, c => by
    have ih := index_lt r c
    unfold Lib.indexByte
    split
    · simp
    · simp only [beq_iff_eq]
      split <;> simp <;> omega

theorem run_slice_to (q : Option Addr) (n c j : Nat) (W : World) (hj : j ≤ c) :
    (Instr.slice 22 (.slice q n c) none (some (.int .i64 (j : Int))) none).run Tryd.prog W = .ok (.slice (subA q c 0) j c) W := by
  have hs : ∀ w, (Go.sizeOf 5).run Tryd.prog w = .ok 1 w := Tryd.sizeOf5
  have he : Tryd.prog.elem 22 = 5 := by kernel_rfl
  have h := run_slice_h (P := Tryd.prog) (w := W) 22 q n c (by rw [he]; exact Tryd.underlying22) .i64 j (by omega) (by omega)
  rw [h, he, hs]
  simp [Result.andThen, sliced, subA]

theorem run_slice_from (q : Option Addr) (n c i : Nat) (W : World) (hi : i + 1 ≤ n) :
    (Instr.slice 22 (.slice q n c) (some (.int .i64 ((i : Int) + 1))) none none).run Tryd.prog W = .ok (.slice (subA q c (i + 1)) (n - (i + 1)) (c - (i + 1))) W := by
  have hs : ∀ w, (Go.sizeOf 5).run Tryd.prog w = .ok 1 w := Tryd.sizeOf5
  have he : Tryd.prog.elem 22 = 5 := by kernel_rfl
  have h := run_slice_l (P := Tryd.prog) (w := W) 22 q n c (by rw [he]; exact Tryd.underlying22) .i64 ((i : Int) + 1) (by omega) (by omega)
  rw [h, he, hs]
  simp only [Result.andThen, sliced, subA, Nat.mul_one, show ((i : Int) + 1).toNat = i + 1 from by omega]

theorem sub_to (l : List UInt8) (k : Nat) : sub l 0 k = l.take k := by unfold sub; simp
theorem sub_from (l : List UInt8) (k : Nat) : sub l k l.length = l.drop k := by unfold sub; rw [List.take_of_length_le (by simp)]

set_option maxRecDepth 100000 in
set_option maxHeartbeats 8000000 in
theorem At_any (q : Option Addr) (n c : Nat) (l : List UInt8) (b : UInt8) (w : World) (hl : l.length = n) (hn : n ≤ 1099511627775) (hcp : n ≤ c) (hq : q = none → n = 0 ∧ c = 0) (h : Lib.BytesIn w q n (Lib.numsL l)) :
    Calls Tryd.prog 23 #[.slice q n c, .int .u8 (b.toNat : Int)] w fun e w' => ∃ v1 v2, e = .returned (.tuple #[v1, v2, .bool (atOk b l)]) ∧
      w'.ownsRow w.heap.size 5 1 v1 (atFst b l).length ((Lib.numsL (atFst b l)).map (Value.int .u8)) ∧
      w'.ownsRow w.heap.size 5 1 v2 (atSnd b l).length ((Lib.numsL (atSnd b l)).map (Value.int .u8)) ∧ Below w.heap.size w w' := by
  have hix := IndexByte_any q n c l b w hl hq h
  have hge := Lib.indexByte_ge l b
  have hlt := index_lt l b
  by_cases h0 : 0 ≤ Lib.indexByte l b
  · obtain ⟨k, hk⟩ : ∃ k : Nat, Lib.indexByte l b = (k : Int) := ⟨(Lib.indexByte l b).toNat, by omega⟩
    obtain ⟨e1, e2, e3⟩ := at_found b l k hk
    rw [hk] at hix hlt
    have hkn : k < n := by omega
    rw [e1, e2, e3]
    have hb1 := bytes_sub h hl (Nat.zero_le k) (by omega) hcp
    have hb2 := bytes_sub h hl (show k + 1 ≤ n from hkn) (Nat.le_refl n) hcp
    have hs2 : sub l (k + 1) n = l.drop (k + 1) := by rw [← hl]; exact sub_from l (k + 1)
    rw [sub_to, Nat.sub_zero] at hb1
    rw [hs2] at hb2
    have hl1 : (l.take k).length = k := by rw [List.length_take]; omega
    have hl2 : (l.drop (k + 1)).length = n - (k + 1) := by rw [List.length_drop]; omega
    have hwr : IntKind.i64.wrap ((k : Int) + 1) = (k : Int) + 1 := by rw [IntKind.wrap_i64]; omega
    have hr1 : ∀ W, (Instr.slice 22 (.slice q n c) none (some (.int .i64 (k : Int))) none).run Tryd.prog W = .ok (.slice (subA q c 0) k c) W := fun W => run_slice_to q n c k W (by omega)
    have hr2 : ∀ W, (Instr.slice 22 (.slice q n c) (some (.int .i64 ((k : Int) + 1))) none none).run Tryd.prog W = .ok (.slice (subA q c (k + 1)) (n - (k + 1)) (c - (k + 1))) W := fun W => run_slice_from q n c k W hkn
    clear e1 e2 e3 h0 hge hk hs2 h
    rw [hl1, hl2]
    generalize l.take k = l1 at *
    generalize l.drop (k + 1) = l2 at *
    generalize hqa : subA q c 0 = qa at *
    generalize hqb : subA q c (k + 1) = qb at *
    clear hqa hqb
    go_enter Tryd.func23, Tryd.ntmps23
    go_wp2_with fail
    refine hix.mono ?_
    rintro e w' ⟨rfl, hw⟩
    subst hw
    go_wp2_with fail
    refine pregion_any (fun _ => True) (by kernel_rfl) ?_
    refine wpAnyH_take (i := 0) (v := .slice q n c) rfl (by kernel_rfl) (by kernel_rfl) (by kernel_rfl) (fun _ _ _ h => h) (.inl ⟨by kernel_rfl, ?_⟩) trivial ?_
    · rintro w -; go_simp
    refine wpAnyH_take (i := 1) (v := .int .i64 (k : Int)) rfl (by kernel_rfl) (by kernel_rfl) (by kernel_rfl) (fun _ _ _ h => h) (.inl ⟨by kernel_rfl, ?_⟩) trivial ?_
    · rintro w -; go_simp
    refine wpAnyH_take (i := 2) (v := .slice qa k c) rfl (by kernel_rfl) (by kernel_rfl) (by kernel_rfl) (fun _ _ _ h => h) (.inl ⟨by kernel_rfl, ?_⟩) trivial ?_
    · rintro w -; go_simp
    refine wpAnyH_take (i := 4) (v := .slice q n c) rfl (by kernel_rfl) (by kernel_rfl) (by kernel_rfl) (fun _ _ _ h => h) (.inl ⟨by kernel_rfl, ?_⟩) trivial ?_
    · rintro w -; go_simp
    refine wpAnyH_take (i := 5) (v := .int .i64 (k : Int)) rfl (by kernel_rfl) (by kernel_rfl) (by kernel_rfl) (fun _ _ _ h => h) (.inl ⟨by kernel_rfl, ?_⟩) trivial ?_
    · rintro w -; go_simp
    refine wpAnyH_take (i := 6) (v := .int .i64 ((k : Int) + 1)) rfl (by kernel_rfl) (by kernel_rfl) (by kernel_rfl) (fun _ _ _ h => h) (.inl ⟨by kernel_rfl, ?_⟩) trivial ?_
    · rintro w -; go_simp
    refine wpAnyH_take (i := 7) (v := .slice qb (n - (k + 1)) (c - (k + 1))) rfl (by kernel_rfl) (by kernel_rfl) (by kernel_rfl) (fun _ _ _ h => h) (.inl ⟨by kernel_rfl, ?_⟩) trivial ?_
    · rintro w -; go_simp
    have hd1 := bytes_keep hb1 (Keep.drew (fun _ => True) _) (fun _ _ _ => trivial)
    have hd2 := bytes_keep hb2 (Keep.drew (fun _ => True) _) (fun _ _ _ => trivial)
    refine pone 3 (by kernel_rfl) rfl fun K hK => ?_
    go_simp
    refine (Clone_any qa k c l1 _ hl1 (by omega) hd1).mono ?_
    rintro e w1 ⟨v1, rfl, hrow1, hbel1⟩
    have hd3 := bytes_keep hd2 (Keep.of_below hbel1) (fun a h1 h2 => bytes_lt hd2 a h1 h2)
    rw [drew_size] at hrow1 hbel1
    refine hK _ _ trivial ?_
    clear hK K
    refine pone 8 (by kernel_rfl) rfl fun K hK => ?_
    go_simp
    refine (Clone_any qb (n - (k + 1)) (c - (k + 1)) l2 _ hl2 (by omega) hd3).mono ?_
    rintro e w2 ⟨v2, rfl, hrow2, hbel2⟩
    have hrow1' := (Keep.of_below hbel2).row hrow1 (fun b hb => (hrow1.lt b hb).2)
    have hsz := hbel1.size
    rw [drew_size] at hsz
    have hrow2' := row_base hrow2 hsz
    have hfin : Below w'.heap.size w' w2 := (Below.refl _ _).drew.trans (hbel1.trans (hbel2.mono hsz))
    refine hK _ _ trivial ?_
    clear hK K hrow1 hrow2 hbel1 hbel2 hd1 hd2 hd3 hb1 hb2
    refine wpAnyH_take (i := 9) (v := v1) rfl (by kernel_rfl) (by kernel_rfl) (by kernel_rfl) (fun _ _ _ h => h) (.inl ⟨by kernel_rfl, ?_⟩) trivial ?_
    · rintro w -; go_simp
    refine wpAnyH_take (i := 10) (v := v2) rfl (by kernel_rfl) (by kernel_rfl) (by kernel_rfl) (fun _ _ _ h => h) (.inl ⟨by kernel_rfl, ?_⟩) trivial ?_
    · rintro w -; go_simp
    refine wpAnyH_take (i := 11) (v := .bool true) rfl (by kernel_rfl) (by kernel_rfl) (by kernel_rfl) (fun _ _ _ h => h) (.inl ⟨by kernel_rfl, ?_⟩) trivial ?_
    · rintro w -; go_simp
    refine pdone (by kernel_rfl) ?_ _
    go_wp2
    go_ret3
    exact ⟨v1, v2, rfl, hrow1', hrow2', hfin⟩
  · have hk : Lib.indexByte l b = -1 := by omega
    obtain ⟨e1, e2, e3⟩ := at_none b l hk
    rw [hk] at hix
    rw [e1, e2, e3, hl]
    clear e1 e2 e3 h0 hge hk hlt
    go_enter Tryd.func23, Tryd.ntmps23
    go_wp2_with fail
    refine hix.mono ?_
    rintro e w' ⟨rfl, hw⟩
    subst hw
    go_wp2_with fail
    refine (Clone_any q n c l _ hl (by omega) h).mono ?_
    rintro e w1 ⟨v1, rfl, hrow1, hbel1⟩
    go_wp2
    go_ret3
    exact ⟨v1, _, rfl, hrow1, World.ownsRow_nil _ _ _ _, hbel1⟩

end Go.Proofs.YtdbpbfbjebjbeaaDoor

namespace Go.Proofs.YtdbpbfbjebjbeaaDoor.Host
open Go.RowKit Go.Shelf Ref

set_option maxHeartbeats 1000000 in
theorem isDigit_any (b : UInt8) (w : World) :
    Calls Tryd.prog 80 #[.int .u8 (b.toNat : Int)] w fun e w' => e = .returned (.bool (Ref.decB b)) ∧ w = w' := by
  have hb := Ref.u8_lt b
  by_cases h1 : 48 ≤ b.toNat
  · by_cases h2 : b.toNat ≤ 57
    · have H := Lib.hid (show Ref.decB b = true by simp [Ref.decB]; omega)
      have d1 : decide ((48 : Int) ≤ (b.toNat : Int)) = true := by simp; omega
      have d2 : decide ((b.toNat : Int) ≤ (57 : Int)) = true := by simp; omega
      go_enter Tryd.func80, Tryd.ntmps80
      go_wp2
      go_ret
      exact ⟨(by rw [H.out]; try rfl), rfl⟩
    · have H := Lib.hid (show Ref.decB b = false by simp [Ref.decB]; omega)
      have d2 : decide ((b.toNat : Int) ≤ (57 : Int)) = false := by simp; omega
      go_enter Tryd.func80, Tryd.ntmps80
      go_wp2
      go_ret
      exact ⟨(by rw [H.out]; try rfl), rfl⟩
  · have H := Lib.hid (show Ref.decB b = false by simp [Ref.decB]; omega)
    have d1 : decide ((48 : Int) ≤ (b.toNat : Int)) = false := by simp; omega
    go_enter Tryd.func80, Tryd.ntmps80
    go_wp2
    go_ret
    exact ⟨(by rw [H.out]; try rfl), rfl⟩

set_option maxHeartbeats 1000000 in
theorem isLetter_any (b : UInt8) (w : World) :
    Calls Tryd.prog 99 #[.int .u8 (b.toNat : Int)] w fun e w' => e = .returned (.bool (Ref.letB b)) ∧ w = w' := by
  have hb := Ref.u8_lt b
  obtain ⟨x1, h1⟩ : ∃ x, decide ((65 : Int) ≤ (b.toNat : Int)) = x := ⟨_, rfl⟩
  obtain ⟨x2, h2⟩ : ∃ x, decide ((b.toNat : Int) ≤ (90 : Int)) = x := ⟨_, rfl⟩
  obtain ⟨x3, h3⟩ : ∃ x, decide ((97 : Int) ≤ (b.toNat : Int)) = x := ⟨_, rfl⟩
  obtain ⟨x4, h4⟩ : ∃ x, decide ((b.toNat : Int) ≤ (122 : Int)) = x := ⟨_, rfl⟩
  have H := Lib.hid (show Ref.letB b = ((x1 && x2) || (x3 && x4)) by
    rw [← h1, ← h2, ← h3, ← h4, Bool.eq_iff_iff]
    simp only [Ref.letB, decide_eq_true_eq, Bool.or_eq_true, Bool.and_eq_true]
    omega)
  cases x1 <;> cases x2 <;> cases x3 <;> cases x4
  all_goals
    go_enter Tryd.func99, Tryd.ntmps99
    go_wp2
    go_ret
    exact ⟨(by rw [H.out]; try rfl), rfl⟩

theorem part_parts (p : List UInt8) : partB p = (!p.isEmpty && decide (p.length ≤ 63) && p.getD 0 0 != 45 && p.getD (p.length - 1) 0 != 45 && p.all hostByte) := rfl
theorem hostByte_of (b : UInt8) : hostByte b = (Ref.letB b || Ref.decB b || b == 45) := rfl
theorem all_host_drop (l : List UInt8) (k : Nat) (h : k < l.length) : (l.drop k).all hostByte = (hostByte (l.getD k 0) && (l.drop (k + 1)).all hostByte) := by
  rw [Ref.drop_cons l k h, List.all_cons]

set_option maxRecDepth 100000 in
set_option maxHeartbeats 8000000 in
theorem isPart_any (q : Option Addr) (n c : Nat) (l : List UInt8) (w : World) (hl : l.length = n) (hn : n ≤ 140737488355328) (h : Lib.BytesIn w q n (Lib.numsL l)) :
    Calls Tryd.prog 79 #[.slice q n c] w fun e w' => e = .returned (.bool (partB l)) ∧ w = w' := by
  have PP := Lib.hid (part_parts l)
  by_cases hz : n = 0
  · subst hz
    obtain rfl : l = [] := List.eq_nil_of_length_eq_zero hl
    have H := Lib.hid (show partB [] = false from rfl)
    clear PP h
    go_enter Tryd.func79, Tryd.ntmps79
    go_wp2
    go_ret
    exact ⟨(by rw [H.out]; try rfl), rfl⟩
  · have hz' : 0 < n := by omega
    have e0 : ((n : Int) == 0) = false := by rw [beq_eq_false_iff_ne]; omega
    have hne : l.isEmpty = false := by cases l with | nil => simp at hl; omega | cons a r => rfl
    obtain ⟨b, o, rfl, hc⟩ := h.at hz'
    have HC := Lib.hid (fun k (hk : k < n) => show w.cell? ⟨b, o + k, none⟩ = some (.int .u8 ((l.getD k 0).toNat : Int)) by rw [hc k hk, numsL_getD l k (by omega)])
    clear hc h
    by_cases h63 : 63 < n
    · have d3 : decide ((63 : Int) < (n : Int)) = true := by simp; omega
      have H := Lib.hid (show partB l = false by rw [PP.out, hl, decide_eq_false (by omega)]; simp)
      clear PP HC hl hz hne
      go_enter Tryd.func79, Tryd.ntmps79
      go_wp2
      go_ret
      exact ⟨(by rw [H.out]; try rfl), rfl⟩
    · have d3 : decide ((63 : Int) < (n : Int)) = false := by simp; omega
      have ck0 : w.cell? ⟨b, o, none⟩ = some (.int .u8 ((l.getD 0 0).toNat : Int)) := HC.out 0 hz'
      have ckl := HC.out (n - 1) (by omega)
      have PQ := Lib.hid (show partB l = (l.getD 0 0 != 45 && l.getD (n - 1) 0 != 45 && l.all hostByte) by rw [PP.out, hl, decide_eq_true (by omega), hne]; simp)
      have wn : IntKind.i64.wrap ((n : Int) - 1) = ((n - 1 : Nat) : Int) := by rw [IntKind.wrap_i64]; omega
      clear PP hne
      generalize l.getD 0 0 = b0 at *
      by_cases h45 : b0 = 45
      · have e1 : ((b0.toNat : Int) == 45) = true := by rw [h45]; rfl
        have H := Lib.hid (show partB l = false by rw [PQ.out, h45]; rfl)
        clear PQ HC hl hz h45 ckl wn
        go_enter Tryd.func79, Tryd.ntmps79
        go_wp2
        go_ret
        exact ⟨(by rw [H.out]; try rfl), rfl⟩
      · have e1 : ((b0.toNat : Int) == 45) = false := by
          rw [beq_eq_false_iff_ne]; intro h; exact h45 (UInt8.toNat_inj.1 (by have : (45 : UInt8).toNat = 45 := rfl; omega))
        generalize l.getD (n - 1) 0 = bl at *
        by_cases h45' : bl = 45
        · have e2 : ((bl.toNat : Int) == 45) = true := by rw [h45']; rfl
          have H := Lib.hid (show partB l = false by rw [PQ.out, h45']; simp)
          clear PQ HC hl h45 h45'
          go_enter Tryd.func79, Tryd.ntmps79
          go_wp2
          go_ret
          exact ⟨(by rw [H.out]; try rfl), rfl⟩
        · have e2 : ((bl.toNat : Int) == 45) = false := by
            rw [beq_eq_false_iff_ne]; intro h; exact h45' (UInt8.toNat_inj.1 (by have : (45 : UInt8).toNat = 45 := rfl; omega))
          have PA := Lib.hid (show partB l = l.all hostByte by rw [PQ.out, bne_iff_ne.2 h45, bne_iff_ne.2 h45']; simp)
          clear PQ h45 h45'
          have HL := Lib.hid hl
          clear hl
          go_enter Tryd.func79, Tryd.ntmps79
          go_wp2
          clear e0 e1 e2 d3 ck0 ckl wn hz
          go_loop [30] (fun i => ∃ k : Nat, k ≤ n ∧ i = .int .i64 k ∧ Hid (partB l = (l.drop k).all hostByte)) (fun i => n - (intOf i).toNat)
          case atStart => exact ⟨0, Nat.zero_le _, rfl, PA⟩
          case round =>
            obtain ⟨k, hk, rfl, HR⟩ := hrel
            by_cases hlt : k < n
            · have ck := HC.out k hlt
              have hd := all_host_drop l k (by rw [HL.out]; exact hlt)
              rw [hostByte_of] at hd
              generalize l.getD k 0 = bk at *
              have c1 := isLetter_any bk
              have c2 := isDigit_any bk
              have hbk := Ref.u8_lt bk
              cases hle : Ref.letB bk with
              | true =>
                rw [hle] at c1 hd
                have HR2 := Lib.hid (show partB l = (l.drop (k + 1)).all hostByte by rw [HR.out, hd]; simp)
                clear hd hle HR c2 PA
                go_wp2_with (go_at_call 99; refine (c1 _).mono ?_; rintro e w' ⟨rfl, rfl⟩)
                go_round
                case rel => exact ⟨k + 1, by omega, by go_num, HR2⟩
                case measure => simp [intOf]; omega
              | false =>
                cases hde : Ref.decB bk with
                | true =>
                  rw [hle] at c1 hd
                  rw [hde] at c2 hd
                  have HR2 := Lib.hid (show partB l = (l.drop (k + 1)).all hostByte by rw [HR.out, hd]; simp)
                  clear hd hle hde HR PA
                  go_wp2_with (first | (go_at_call 99; refine (c1 _).mono ?_; rintro e w' ⟨rfl, rfl⟩) | (go_at_call 80; refine (c2 _).mono ?_; rintro e w' ⟨rfl, rfl⟩))
                  go_round
                  case rel => exact ⟨k + 1, by omega, by go_num, HR2⟩
                  case measure => simp [intOf]; omega
                | false =>
                  rw [hle] at c1 hd
                  rw [hde] at c2 hd
                  by_cases hmi : bk = 45
                  · have e3 : ((bk.toNat : Int) != 45) = false := by rw [hmi]; rfl
                    have HR2 := Lib.hid (show partB l = (l.drop (k + 1)).all hostByte by rw [HR.out, hd, hmi]; rfl)
                    clear hd hle hde HR hmi PA
                    go_wp2_with (first | (go_at_call 99; refine (c1 _).mono ?_; rintro e w' ⟨rfl, rfl⟩) | (go_at_call 80; refine (c2 _).mono ?_; rintro e w' ⟨rfl, rfl⟩))
                    go_round
                    case rel => exact ⟨k + 1, by omega, by go_num, HR2⟩
                    case measure => simp [intOf]; omega
                  · have e3 : ((bk.toNat : Int) != 45) = true := by
                      rw [bne_iff_ne]; intro h; exact hmi (UInt8.toNat_inj.1 (by have : (45 : UInt8).toNat = 45 := rfl; omega))
                    have H := Lib.hid (show partB l = false by rw [HR.out, hd, beq_false_of_ne hmi]; rfl)
                    clear hd hle hde HR hmi PA
                    go_wp2_with (first | (go_at_call 99; refine (c1 _).mono ?_; rintro e w' ⟨rfl, rfl⟩) | (go_at_call 80; refine (c2 _).mono ?_; rintro e w' ⟨rfl, rfl⟩))
                    go_ret
                    exact ⟨(by rw [H.out]; try rfl), rfl⟩
            · have H := Lib.hid (show partB l = true by rw [HR.out, List.drop_of_length_le (by rw [HL.out]; omega)]; rfl)
              clear HR PA
              go_wp2
              go_ret
              exact ⟨(by rw [H.out]; try rfl), rfl⟩

end Go.Proofs.YtdbpbfbjebjbeaaDoor.Host

namespace Go.Proofs.YtdbpbfbjebjbeaaDoor
open Go.RowKit Go.Shelf

set_option maxHeartbeats 1000000 in
theorem isBlank_any (b : UInt8) (w : World) :
    Calls Tryd.prog 66 #[.int .u8 (b.toNat : Int)] w fun e w' => e = .returned (.bool (blankB b)) ∧ w = w' := by
  have hb := u8_lt b
  by_cases h1 : b.toNat = 32
  · have d1 : ((b.toNat : Int) == 32) = true := by rw [beq_iff_eq]; omega
    have H := Lib.hid (show blankB b = true by simp [blankB]; omega)
    clear h1
    go_enter Tryd.func66, Tryd.ntmps66
    go_wp2
    go_ret
    exact ⟨(by rw [H.out]; try rfl), rfl⟩
  · have d1 : ((b.toNat : Int) == 32) = false := by rw [beq_eq_false_iff_ne]; omega
    have H := Lib.hid (show blankB b = ((b.toNat : Int) == 9) by rw [Bool.eq_iff_iff, beq_iff_eq]; simp [blankB]; omega)
    clear h1
    go_enter Tryd.func66, Tryd.ntmps66
    go_wp2
    go_ret
    exact ⟨(by rw [H.out]; try rfl), rfl⟩

/-- From f to e lies what is left of l without the blanks at both ends. -/
def Trims (l : List UInt8) (f e : Nat) : Prop :=
  (f = l.length ∧ e = l.length ∧ ∀ j, j < l.length → blankB (l.getD j 0) = true) ∨
  (f < e ∧ e ≤ l.length ∧ (∀ j, j < f → blankB (l.getD j 0) = true) ∧ blankB (l.getD f 0) = false ∧ blankB (l.getD (e - 1) 0) = false ∧ ∀ j, e ≤ j → j < l.length → blankB (l.getD j 0) = true)

theorem first_no (l : List UInt8) : ∀ (d m : Nat), l.length - m = d → (∀ j, j < m → blankB (l.getD j 0) = true) → m ≤ l.length →
    (∀ j, j < l.length → blankB (l.getD j 0) = true) ∨ ∃ f, f < l.length ∧ (∀ j, j < f → blankB (l.getD j 0) = true) ∧ blankB (l.getD f 0) = false
  | 0, m, hd, h, hm => .inl (fun j hj => h j (by omega))
  | d + 1, m, hd, h, hm => by
    by_cases hb : blankB (l.getD m 0) = true
    · exact first_no l d (m + 1) (by omega) (fun j hj => by
        by_cases he : j = m
        · subst he; exact hb
        · exact h j (by omega)) (by omega)
    · exact .inr ⟨m, by omega, h, by simpa using hb⟩
theorem last_no (l : List UInt8) (f : Nat) (hf : blankB (l.getD f 0) = false) : ∀ (m : Nat), f < m → m ≤ l.length → (∀ j, m ≤ j → j < l.length → blankB (l.getD j 0) = true) →
    ∃ e, f < e ∧ e ≤ l.length ∧ blankB (l.getD (e - 1) 0) = false ∧ ∀ j, e ≤ j → j < l.length → blankB (l.getD j 0) = true
  | 0, h, _, _ => absurd h (Nat.not_lt_zero f)
  | m + 1, h, hm, ha => by
    by_cases hb : blankB (l.getD m 0) = true
    · have hne : f ≠ m := by rintro rfl; rw [hf] at hb; cases hb
      exact last_no l f hf m (by omega) (by omega) (fun j hj hl => by
        by_cases he : j = m
        · subst he; exact hb
        · exact ha j (by omega) hl)
    · exact ⟨m + 1, h, hm, by rw [Nat.add_sub_cancel]; simpa using hb, ha⟩
theorem trims (l : List UInt8) : ∃ f e, Trims l f e := by
  rcases first_no l l.length 0 (by omega) (fun j hj => absurd hj (Nat.not_lt_zero j)) (Nat.zero_le _) with h | ⟨f, h1, h2, h3⟩
  · exact ⟨_, _, .inl ⟨rfl, rfl, h⟩⟩
  · obtain ⟨e, h4, h5, h6, h7⟩ := last_no l f h3 l.length h1 (Nat.le_refl _) (fun j h1 h2 => absurd h1 (by omega))
    exact ⟨f, e, .inr ⟨h4, h5, h2, h3, h6, h7⟩⟩
theorem Trims.le {l : List UInt8} {f e : Nat} (h : Trims l f e) : f ≤ e ∧ e ≤ l.length := by
  rcases h with ⟨h1, h2, _⟩ | ⟨h1, h2, _⟩ <;> omega

set_option maxRecDepth 100000 in
set_option maxHeartbeats 4000000 in
theorem cutTrim_any (q : Option Addr) (n c f e : Nat) (l : List UInt8) (w : World) (hl : l.length = n) (hn : n ≤ 1099511627775) (hnc : n ≤ c) (hb : Lib.BytesIn w q n (Lib.numsL l)) (ht : Trims l f e) :
    Calls Tryd.prog 44 #[.slice q n c] w fun e' w' => ∃ v', e' = .returned v' ∧ w'.ownsRow w.heap.size 5 1 v' (sub l f e).length ((Lib.numsL (sub l f e)).map (Value.int .u8)) ∧ Below w.heap.size w w' := by
  have hle := ht.le
  have con := Clone_any (subA q c f) (e - f) (c - f) (sub l f e) w (by rw [sub_length _ _ _ hle.2]) (by omega) (bytes_sub hb hl hle.1 (by omega) hnc)
  have hsl := fun W => run_slice_sub q n c f e W hle.1 (by omega)
  have hcell : ∀ j, j < n → ∃ b o, q = some ⟨b, o, none⟩ ∧ w.cell? ⟨b, o + j, none⟩ = some (.int .u8 ((l.getD j 0).toNat : Int)) := fun j hj => by
    obtain ⟨b, o, rfl, hc⟩ := hb.at (by omega)
    exact ⟨b, o, rfl, by rw [← numsL_getD l j (by omega)]; exact hc j hj⟩
  have hsz := sub_length l f e hle.2
  rw [hsz]
  rw [hl] at hle
  clear hb hsz
  go_enter Tryd.func44, Tryd.ntmps44
  go_wp2
  go_loop [3] (fun i => ∃ k : Nat, k ≤ f ∧ i = .int .i64 k) (fun i => f - (intOf i).toNat)
  case atStart => exact ⟨0, Nat.zero_le _, rfl⟩
  case round =>
    obtain ⟨k, hk, rfl⟩ := hrel
    by_cases hlt : k < f
    · obtain ⟨b, o, rfl, hck⟩ := hcell k (by omega)
      have hbk : blankB (l.getD k 0) = true := by
        rcases ht with ⟨h1, h2, h3⟩ | ⟨h1, h2, h3, _⟩
        · exact h3 k (by omega)
        · exact h3 k hlt
      have cb := isBlank_any (l.getD k 0)
      rw [hbk] at cb
      clear con hsl hcell ht hbk
      generalize l.getD k 0 = bk at *
      have hkn : k < n := by omega
      go_wp2_with (go_at_call 66; refine (cb _).mono ?_; rintro e w' ⟨rfl, rfl⟩)
      go_round
      case rel => exact ⟨k + 1, by omega, by go_num⟩
      case measure => simp [intOf]; omega
    · obtain rfl : k = f := by omega
      rcases ht with ⟨rfl, rfl, h3⟩ | ⟨h1, h2, h3, h4, h5, h6⟩
      · rw [hl] at hk con hsl hle hlt ⊢
        clear hcell h3
        rw [Nat.sub_self] at con hsl
        go_wp2_with fail
        go_loop [4] (fun i => i = .int .i64 (n : Int)) (fun _ => 0)
        case atStart => rfl
        case round =>
          obtain rfl := hrel
          go_wp2_with fail
          refine con.mono ?_
          rintro e w' ⟨v', rfl, hrow, hbel⟩
          go_wp2
          go_ret
          exact ⟨v', rfl, by first | exact hrow | (rw [Nat.sub_self, hl]; exact hrow), hbel⟩
      · obtain ⟨b, o, rfl, hck⟩ := hcell k (by omega)
        have cb := isBlank_any (l.getD k 0)
        rw [h4] at cb
        clear h4
        generalize l.getD k 0 = bk at *
        have hkn : k < n := by omega
        go_wp2_with fail
        refine (cb _).mono ?_
        rintro e w' ⟨rfl, rfl⟩
        go_wp2_with fail
        clear hck h3 hkn
        go_loop [4] (fun i => ∃ t : Nat, e ≤ t + 1 ∧ t + 1 ≤ n ∧ i = .int .i64 ((t : Int) + 1)) (fun i => (intOf i).toNat - e)
        case atStart => exact ⟨n - 1, by omega, by omega, by congr 1; omega⟩
        case round =>
          obtain ⟨t, ht1, ht2, rfl⟩ := hrel
          obtain ⟨b2, o2, hq2, hct⟩ := hcell t (by omega)
          cases hq2
          have ct := isBlank_any (l.getD t 0)
          have d3 : decide ((k : Int) < (t : Int) + 1) = true := by simp; omega
          by_cases het : e < t + 1
          · rw [h6 t (by omega) (by omega)] at ct
            clear h5 h6 con hsl cb hcell
            generalize l.getD t 0 = bt at *
            go_wp2_with fail
            refine (ct _).mono ?_
            rintro e w' ⟨rfl, rfl⟩
            go_wp2
            go_round
            case rel => exact ⟨t - 1, by omega, by omega, by go_num⟩
            case measure => simp [intOf]; omega
          · obtain rfl : e = t + 1 := by omega
            rw [Nat.add_sub_cancel] at h5
            rw [h5] at ct
            push_cast at hsl
            clear h5 h6 cb hcell
            generalize l.getD t 0 = bt at *
            go_wp2_with fail
            refine (ct _).mono ?_
            rintro e w' ⟨rfl, rfl⟩
            go_wp2_with fail
            refine con.mono ?_
            rintro e w' ⟨v', rfl, hrow, hbel⟩
            go_wp2
            go_ret
            exact ⟨_, rfl, hrow, hbel⟩

end Go.Proofs.YtdbpbfbjebjbeaaDoor

namespace Go.Proofs.YtdbpbfbjebjbeaaDoor.Url

theorem at_ahead (c : UInt8) (l : List UInt8) : atFst c l = aheadL c l ∧ Host.tailL c l = (if atOk c l = true then some (atSnd c l) else none) ∧ (atOk c l = false → atSnd c l = []) := by
  by_cases h : c ∈ l
  · obtain ⟨x, y, rfl, hx⟩ := List.eq_append_cons_of_mem h
    have hi : Lib.indexByte (x ++ c :: y) c = (x.length : Int) := index_at _ _ _ (by simp) (by simp [List.getD]) fun j hj => by
      intro e
      apply hx
      rw [← e, List.getD, List.getElem?_append_left hj, List.getElem?_eq_getElem hj]
      exact List.getElem_mem hj
    obtain ⟨h1, h2, h3⟩ := at_found c _ _ hi
    obtain ⟨h4, h5⟩ := ahead_yes c x y hx
    rw [h1, h2, h3, h4, h5, if_pos rfl]
    refine ⟨by simp, by simp, fun h => by cases h⟩
  · have hi : Lib.indexByte l c = -1 := index_no _ _ fun j hj e => h (by
      rw [← e, List.getD, List.getElem?_eq_getElem hj]
      exact List.getElem_mem hj)
    obtain ⟨h1, h2, h3⟩ := at_none c l hi
    obtain ⟨h4, h5⟩ := ahead_no c l h
    rw [h1, h2, h3, h4, h5]
    exact ⟨rfl, rfl, fun _ => rfl⟩
theorem at_len (c : UInt8) (l : List UInt8) : (atFst c l).length ≤ l.length ∧ (atSnd c l).length ≤ l.length := by
  refine ⟨by rw [(at_ahead c l).1]; exact ahead_len c l, ?_⟩
  unfold atSnd
  split
  · rw [List.length_drop]; omega
  · simp

/-- Where "://" begins first. -/
def sepI (l : List UInt8) : Int := Lib.index l [58, 47, 47]
theorem sep_none (l : List UInt8) (h : sepI l = -1) : sepL l = none := by
  induction l with
  | nil => rfl
  | cons b r ih =>
    unfold sepI at h ih
    rw [Lib.index] at h
    split at h
    · cases h
    · rename_i hp
      split at h
      · rename_i hr
        unfold sepL
        split
        · rename_i t
          exact absurd (by simp [List.isPrefixOf]) hp
        · rw [ih (by simpa using hr)]; rfl
      · have := Lib.index_ge r [58, 47, 47]; omega
theorem sep_some : ∀ (l : List UInt8) (k : Nat), sepI l = (k : Int) → sepL l = some (l.take k, l.drop (k + 3)) ∧ k + 3 ≤ l.length
  | [], k, h => by
    unfold sepI at h
    rw [Lib.index] at h
    simp at h
  | b :: r, k, h => by
    have ih := sep_some r
    unfold sepI at h ih
    rw [Lib.index] at h
    split at h
    · rename_i hp
      obtain rfl : k = 0 := by omega
      have hp' : ([58, 47, 47] : List UInt8) <+: b :: r := List.isPrefixOf_iff_prefix.1 hp
      obtain ⟨t, ht⟩ := hp'
      rw [← ht]
      exact ⟨rfl, by simp⟩
    · rename_i hp
      split at h
      · omega
      · rename_i hr
        have hge := Lib.index_ge r [58, 47, 47]
        have hr' : Lib.index r [58, 47, 47] ≠ -1 := by simpa using hr
        obtain ⟨j, hj⟩ : ∃ j : Nat, Lib.index r [58, 47, 47] = (j : Int) := ⟨(Lib.index r [58, 47, 47]).toNat, by omega⟩
        obtain rfl : k = j + 1 := by omega
        obtain ⟨h1, h2⟩ := ih j hj
        refine ⟨?_, by rw [List.length_cons]; omega⟩
        unfold sepL
        split
        · exact absurd (by simp [List.isPrefixOf]) hp
        · rw [h1]
          simp
theorem sep_cases (l : List UInt8) : (sepI l = -1 ∧ sepL l = none) ∨ ∃ k : Nat, sepI l = (k : Int) ∧ k + 3 ≤ l.length ∧ sepL l = some (l.take k, l.drop (k + 3)) := by
  have hge : -1 ≤ sepI l := Lib.index_ge l _
  by_cases h : sepI l = -1
  · exact .inl ⟨h, sep_none l h⟩
  · have hk : sepI l = ((sepI l).toNat : Int) := by omega
    obtain ⟨h1, h2⟩ := sep_some l _ hk
    exact .inr ⟨_, hk, h2, h1⟩

end Go.Proofs.YtdbpbfbjebjbeaaDoor.Url

namespace Go.Proofs.YtdbpbfbjebjbeaaDoor.Host
open Go.RowKit Go.Shelf
attribute [local go_sem] Oper.semAt_some

theorem results_bool {fn : Func} {p : Tmp} (h : fn.results = #[.cell p 4]) (tmps : Array Value) (w : World) (B : Nat) (v : Value) (hp : tmps.getD p undef = .pointer (some ⟨B, 0, none⟩)) (hb : w.cell? ⟨B, 0, none⟩ = some v) :
    (results fn tmps).run Tryd.prog w = .ok v w := by
  have hp' : tmps[p]?.getD undef = .pointer (some ⟨B, 0, none⟩) := by simpa using hp
  have ha : ∀ w', (isAgg 4).run Tryd.prog w' = .ok false w' := Tryd.isAgg4
  have hl : (load ⟨B, 0, none⟩).run Tryd.prog w = .ok v w := by simp [go_sem, hb]
  simp [results, h, hp', asAddr, loadVar, ha, hl, Result.andThen]

/-- Between two rounds of a loop that makes no memory of its own: E holds of what lay ahead of the loop. -/
def EvI {α : Type} (W0 : World) (E : List α → World → Prop) (pre : List α) (Pv : Nat → Prop) (W : World) : Prop := (∀ b, Pv b → W0.heap.size ≤ b) ∧ Keep (fun _ => False) W0 W ∧ E pre W
/-- Where it has left that loop. -/
def EvX {α : Type} (W0 : World) (E : List α → World → Prop) (c : Code) (pre : List α) (Pv : Nat → Prop) (W : World) : Prop := c = .ret ∧ EvI W0 E pre Pv W
theorem EvI_abide {α : Type} {W0 : World} {E : List α → World → Prop} (hE : ∀ pre A B, Keep (fun b => b < W0.heap.size) A B → E pre A → E pre B) : Abide (EvI W0 E) := by
  rintro pre Pv Pv' A B ⟨h1, h2, h3⟩ hk hp
  refine ⟨fun b hb => ?_, h2.trans (hk.mono fun _ _ h => h.elim), hE _ _ _ (hk.mono fun b _ hb hn => by have := h1 b hn; omega) h3⟩
  rcases (hp b hb).1 with h | h
  · exact h1 b h
  · exact Nat.le_trans h2.size h
theorem EvX_abide {α : Type} {W0 : World} {E : List α → World → Prop} (hE : ∀ pre A B, Keep (fun b => b < W0.heap.size) A B → E pre A → E pre B) (c : Code) : Abide (EvX W0 E c) :=
  fun s Pv Pv' A B h hk hp => ⟨h.1, EvI_abide hE s Pv Pv' A B h.2 hk hp⟩

theorem splitX_snd (c : UInt8) (l : List UInt8) : (splitX c l).map Prod.snd = Ref.splitL c l := by
  rw [← pieces_split]
  unfold splitX splitOf piecesOf
  rw [List.map_map]
  apply List.ext_getElem?
  intro i
  simp only [List.getElem?_map, List.getElem?_zipIdx]
  cases (spansL (isB c) l)[i]? <;> rfl
theorem splitX_length (c : UInt8) (l : List UInt8) : (splitX c l).length = (Ref.splitL c l).length := by rw [← splitX_snd, List.length_map]
theorem addrX (l : List UInt8) : addrB (Ref.splitL 46 l) = (decide ((splitX 46 l).length = 4) && (splitX 46 l).all fun x => Ref.numB x.2) := by
  rw [Ref.addr_num, ← splitX_length, ← splitX_snd, List.all_map]
  rfl

/-- What lies while the parts are gone through. -/
def AdrE (w : World) (pre : List (Nat × List UInt8)) (W : World) : Prop :=
  Boxed W w.heap.size 4 (.bool false) ∧ Boxed W (w.heap.size + 1) 3 (.int .i64 pre.length) ∧ pre.all (fun x => Ref.numB x.2) = true ∧ Below w.heap.size w W
def AdrX (w : World) (xs : List (Nat × List UInt8)) (_ : List (Nat × List UInt8)) (W : World) : Prop :=
  Boxed W w.heap.size 4 (.bool false) ∧ xs.all (fun x => Ref.numB x.2) = false ∧ Below w.heap.size w W

set_option maxRecDepth 100000 in
set_option maxHeartbeats 4000000 in
theorem Address_any (q : Option Addr) (n c : Nat) (l : List UInt8) (w : World) (hl : l.length = n) (hn : n ≤ 140737488355328) (h : Lib.BytesIn w q n (Lib.numsL l)) :
    Calls Tryd.prog 81 #[.slice q n c] w fun e w' => e = .returned (.bool (addressB l)) ∧ Below w.heap.size w w' := by
  refine (callsIn_wide (n := 1)).1 ?_
  refine callsIn_of_wp_marks Tryd.func81 rfl trivial ?_ rfl
  simp only [Tryd.ntmps81, List.size_toArray, List.length_cons, List.length_nil, Nat.reduceAdd, Nat.reduceSub, Array.replicate_succ, Array.replicate_zero, List.push_toArray, List.append_toArray, List.nil_append, List.cons_append]
  by_cases hbig : 253 < n
  · have d1 : decide ((253 : Int) < (n : Int)) = true := by simp; omega
    have H := Lib.hid (address_big l (by omega))
    clear h hl
    gi_wp2
    exact ⟨_, results_bool rfl _ _ w.heap.size _ rfl (Boxed.new w _ _).cell, by rw [H.out], (Below.refl _ _).alloc (Nat.le_refl _) _⟩
  · have d1 : decide ((253 : Int) < (n : Int)) = false := by simp; omega
    have HA := Lib.hid ((address_of l (by omega)).trans (addrX l))
    obtain ⟨W0, hW0⟩ : ∃ W0, (w.alloc (.cells #[.bool false] 4)).alloc (.cells #[.int .i64 0] 3) = W0 := ⟨_, rfl⟩
    have b0 : Boxed W0 w.heap.size 4 (.bool false) := hW0 ▸ (Boxed.new w _ _).alloc _
    have b1 : Boxed W0 (w.heap.size + 1) 3 (.int .i64 0) := by
      have := Boxed.new (w.alloc (.cells #[.bool false] 4)) 3 (.int .i64 0)
      rw [World.size_alloc] at this
      exact hW0 ▸ this
    have hB0 : Below w.heap.size w W0 := hW0 ▸ ((Below.refl _ w).alloc (Nat.le_refl _) _).alloc (by simp) _
    have hs0 : W0.heap.size = w.heap.size + 2 := by rw [← hW0]; simp
    have hb0 := bytes_keep h (Keep.of_below hB0) (fun a h1 h2 => bytes_lt h a h1 h2)
    have con := Split_any q n c 46 l W0 hl (by omega) hb0
    have hsmall := splitX_small 46 l n hl
    have hlenX := splitX_len 46 l
    rw [hl] at hlenX
    have HW0 := Lib.hid hW0
    clear h hW0 hb0 hl
    gi_wp2_with fail
    rw [HW0.out]
    refine ⟨trivial, (callsIn_wide.2 con).mono ?_⟩
    rintro e W1 ⟨B, v', rfl, hB, hBc, hrow, hBl, hbel⟩
    have hit := Split_iter (by omega) hB hBc hrow
    have hRl0 : ∀ b, (b = B ∨ b = W0.heap.size ∨ v'.ownBlock = some b) → w.heap.size + 2 ≤ b ∧ b < W1.heap.size := fun b hb => by
      rcases hb with rfl | rfl | hb
      · exact ⟨by omega, hB.lt⟩
      · exact ⟨by omega, hBc.lt⟩
      · have := hrow.lt b hb; exact ⟨by omega, this.2⟩
    obtain ⟨RB, hRB⟩ : ∃ RB : Nat → Prop, RB = fun b => b = B ∨ b = W0.heap.size ∨ v'.ownBlock = some b := ⟨_, rfl⟩
    rw [← hRB, hs0] at hit
    have hRl : ∀ b, RB b → w.heap.size + 2 ≤ b ∧ b < W1.heap.size := fun b hb => hRl0 b (by rw [hRB] at hb; exact hb)
    clear hRB hRl0
    replace b0 := (Keep.of_below hbel).boxed b0 (by omega)
    replace b1 := (Keep.of_below hbel).boxed b1 (by omega)
    have hB1 := hB0.trans (hbel.mono hB0.size)
    have hs1 := hbel.size
    clear con hB hBc hrow hBl hbel HW0 hB0
    generalize splitX 46 l = xs at *
    gi_wp2
    rw [hs0] at hs1
    clear hs0
    refine rf_law (gf := 47) (lb := #[.pointer (some ⟨B, 0, none⟩), .pointer (some ⟨w.heap.size + 2, 0, none⟩)]) rfl (enters_of Tryd.func47 (by kernel_rfl) rfl)
      hit (Keep.refl _ _) (fun b hb => (hRl b hb).2) (fun x args G W h => by obtain ⟨v, rfl, _⟩ := h; rfl)
      (EvI W1 (AdrE w)) (EvX W1 (AdrX w xs)) (EvI_abide ?e1) (EvX_abide ?e2)
      ⟨(fun _ h => h.elim), Keep.refl _ _, b0, b1, rfl, hB1⟩ ?round ?done ?stop
    case e1 =>
      rintro pre A B hk ⟨h1, h2, h3, h4⟩
      exact ⟨hk.boxed h1 (by omega), hk.boxed h2 (by omega), h3, h4.trans ((hk.mono fun b _ hb => by omega).below h4.size)⟩
    case e2 =>
      rintro pre A B hk ⟨h1, h3, h4⟩
      exact ⟨hk.boxed h1 (by omega), h3, h4.trans ((hk.mono fun b _ hb => by omega).below h4.size)⟩
    case round =>
      rintro ll pre ⟨xi, x⟩ rest Pv G args Wr hll hxs ⟨hge, hK1, hE1, hE2, hE3, hE4⟩ hPl hGl hPb hGP ⟨p, rfl, hp, rfl⟩
      have hxm : (xi, x) ∈ xs := by rw [hxs]; simp
      have hxl := hsmall _ hxm
      simp only at hxl hp
      obtain ⟨qx, cx, rfl, _, hnc, hcm, hbs, hblk⟩ := row_open hp
      have hlen : pre.length + rest.length + 1 = xs.length := by rw [hxs]; simp; omega
      clear hxs
      gi_wp2
      refine ⟨Keep.refl _ _, fun W2 hk2 hs2 r hr => ?_⟩
      have k2 : Keep (fun b => b < W1.heap.size) Wr W2 := hk2.mono fun b _ hb h => by omega
      have f1 := k2.boxed hE1 (by omega)
      have f2 := k2.boxed hE2 (by omega)
      have gx : Keep (fun b => (Value.slice qx x.length cx).ownBlock = some b) Wr W2 := hk2.mono fun b _ hb h => hGl (h ▸ hb)
      have hbs2 : Lib.BytesIn W2 qx x.length (Lib.numsL x) := bytes_keep hbs gx (fun a ha _ => (hblk a ha).2.2)
      have con2 := Number_any qx x.length cx x 255 W2 rfl (by omega) hbs2 (by decide) (by decide)
      rw [numOf_ref] at con2
      unfold numV at con2
      have c1 := f1.cell
      have c2 := f2.cell
      have z1 := f1.frozen
      have z2 := f2.frozen
      have hW2 := hE4.trans ((k2.mono fun b _ h => by omega).below hE4.size)
      have hs2' := hE4.size
      have hK2 := hK1.trans (hk2.mono fun _ _ h => h.elim)
      clear hbs hp hbs2 hblk hk2 gx
      cases ho : Ref.numOf 255 x with
      | none =>
        have HB := Lib.hid (show xs.all (fun x => Ref.numB x.2) = false by
          rw [List.all_eq_false]; exact ⟨_, hxm, by unfold Ref.numB; rw [ho]; simp⟩)
        rw [ho] at con2
        clear ho hxm
        gi_wp2_with fail
        refine ⟨trivial, rfl, (CallsIn.inRound ll (callsIn_wide.2 con2)).mono ?_⟩
        rintro e w' ⟨rfl, rfl⟩
        clear con2
        gi_wp2
        refine ⟨Keep.setCell _ _ _ (fun h => ?_), rfl, fun b hb => hge b hb.1, hK2.trans (Keep.setCell _ _ _ (fun h => h)), f1.set _, HB.out, hW2.setCell (p := ⟨w.heap.size, 0, none⟩) (Nat.le_refl _) _⟩
        rcases h with h | h
        · have := (hRl _ h).1; simp only at this; omega
        · have := hge _ h.1; simp only at this; omega
      | some m =>
        have HB := Lib.hid (show (pre ++ [(xi, x)]).all (fun x => Ref.numB x.2) = true by
          rw [List.all_append, hE3]; simp [Ref.numB, ho])
        have HPL := Lib.hid (show ((pre ++ [(xi, x)]).length : Int) = (pre.length : Int) + 1 by simp)
        have hpl : (pre.length : Int) + 1 ≤ 9223372036854775807 := by omega
        rw [ho] at con2
        clear ho hxm
        gi_wp2_with fail
        refine ⟨trivial, rfl, (CallsIn.inRound ll (callsIn_wide.2 con2)).mono ?_⟩
        rintro e w' ⟨rfl, rfl⟩
        clear con2
        gi_wp2
        have kst : ∀ S : Nat → Prop, ¬ S (w.heap.size + 1) → Keep S W2 (W2.setCell ⟨w.heap.size + 1, 0, none⟩ (.int .i64 ((pre.length : Int) + 1))) := fun S h => Keep.setCell _ _ _ h
        refine ⟨kst _ (fun h => ?_), fun b hb => hge b hb.1, hK2.trans (kst _ (fun h => h)), (kst (fun b => b = w.heap.size) (by omega)).boxed f1 rfl, by rw [HPL.out]; exact f2.set _, HB.out, hW2.setCell (p := ⟨w.heap.size + 1, 0, none⟩) (Nat.le_succ _) _⟩
        rcases h with h | h
        · have := (hRl _ h).1; omega
        · have := hge _ h.1; omega
    case done =>
      rintro D Pv Wd hD hPD hPl ⟨hge, hK1, hE1, hE2, hE3, hE4⟩ hK
      have c1 := hE1.cell
      have c2 := hE2.cell
      have z1 := hE1.frozen
      have z2 := hE2.frozen
      gi_wp2
      have hKd : (Wd.setCell ⟨w.heap.size, 0, none⟩ (.bool ((xs.length : Int) == 4))).heap[D]? = some (.deferred (some [])) := (Keep.setCell (S := fun b => b = D) Wd ⟨w.heap.size, 0, none⟩ _ (show ¬ w.heap.size = D by omega)).heap rfl hK
      have kp : ∀ (S : Nat → Prop) (W : World), ¬ S D → Keep S W (W.putObj D (.deferred none)) := fun S W h => Keep.putObj _ _ _ h
      refine ⟨by simp, .inl ⟨_, _, rfl, run_takeDeferred hKd, ?_⟩⟩
      refine ⟨_, results_bool rfl _ _ w.heap.size _ rfl ((kp (fun b => b = w.heap.size) _ (by omega)).boxed (hE1.set _) rfl).cell, ?_, ?_⟩
      · rw [HA.out, hE3, Bool.and_true]
        congr 2
        rw [Bool.eq_iff_iff, decide_eq_true_iff, beq_iff_eq]; omega
      · have h5 := hE4.setCell (p := ⟨w.heap.size, 0, none⟩) (Nat.le_refl _) (.bool ((xs.length : Int) == 4))
        exact h5.trans ((kp (fun b => b < w.heap.size) _ (by omega)).below h5.size)
    case stop =>
      rintro D cc pre rest Pv Wd hD hPD hPl hxs ⟨rfl, hge, hK1, hE1, hE3, hE4⟩ hK
      have kp : ∀ (S : Nat → Prop) (W : World), ¬ S D → Keep S W (W.putObj D (.deferred none)) := fun S W h => Keep.putObj _ _ _ h
      clear hxs
      gi_wp2
      refine ⟨by simp, .inl ⟨_, _, rfl, run_takeDeferred hK, ?_⟩⟩
      refine ⟨_, results_bool rfl _ _ w.heap.size _ rfl ((kp (fun b => b = w.heap.size) _ (by omega)).boxed hE1 rfl).cell, ?_, ?_⟩
      · rw [HA.out, hE3, Bool.and_false]
      · exact hE4.trans ((kp (fun b => b < w.heap.size) _ (by omega)).below hE4.size)

end Go.Proofs.YtdbpbfbjebjbeaaDoor.Host

namespace Go.Proofs.YtdbpbfbjebjbeaaDoor.Host
open Go.RowKit Go.Shelf
attribute [local go_sem] Oper.semAt_some

/-- The last part. -/
def lastX (xs : List (Nat × List UInt8)) : List UInt8 := (xs.getLast?.map Prod.snd).getD []
theorem lastX_snoc (pre : List (Nat × List UInt8)) (x : Nat × List UInt8) : lastX (pre ++ [x]) = x.2 := by simp [lastX]
theorem lastX_mem (xs : List (Nat × List UInt8)) (h : xs ≠ []) : ∃ x ∈ xs, lastX xs = x.2 := by
  refine ⟨xs.getLast h, List.getLast_mem h, ?_⟩
  unfold lastX
  rw [List.getLast?_eq_some_getLast h]; rfl
theorem hostX (l : List UInt8) : hostB (Ref.splitL 46 l) = (decide ((splitX 46 l).length ≤ 8) && ((splitX 46 l).all fun x => partB x.2) && (!Ref.decB ((lastX (splitX 46 l)).getD 0 0) || addrB (Ref.splitL 46 l))) := by
  have e1 : (Ref.splitL 46 l).getLastD [] = lastX (splitX 46 l) := by
    rw [← splitX_snd, List.getLastD_eq_getLast?, List.getLast?_map]; rfl
  have e2 : (Ref.splitL 46 l).all partB = (splitX 46 l).all fun x => partB x.2 := by rw [← splitX_snd, List.all_map]; rfl
  unfold hostB
  rw [e1, e2, ← splitX_length]

/-- What lies while the parts are gone through. -/
def HsI (w W1 : World) (pre : List (Nat × List UInt8)) (Pv : Nat → Prop) (W : World) : Prop :=
  ∃ q c, Boxed W w.heap.size 4 (.bool false) ∧ Boxed W (w.heap.size + 1) 22 (.slice q (lastX pre).length c) ∧ Boxed W (w.heap.size + 2) 3 (.int .i64 pre.length) ∧
    W.ownsRow 0 5 1 (.slice q (lastX pre).length c) (lastX pre).length ((Lib.numsL (lastX pre)).map (Value.int .u8)) ∧ (∀ b, (Value.slice q (lastX pre).length c).ownBlock = some b → W1.heap.size ≤ b ∧ ¬ Pv b) ∧
    (∀ b, Pv b → W1.heap.size ≤ b) ∧ Keep (fun _ => False) W1 W ∧ (pre.all fun x => partB x.2) = true ∧ pre.length ≤ 8 ∧ Below w.heap.size w W
theorem HsI_abide {w W1 : World} (h : w.heap.size + 3 ≤ W1.heap.size) : Abide (HsI w W1) := by
  rintro pre Pv Pv' A B ⟨q, c, h1, h2, h3, h4, h5, h6, h7, h8, h9, h10⟩ hk hp
  have kk : ∀ b, b < W1.heap.size → ¬ Pv b := fun b hb hn => by have := h6 b hn; omega
  have hs := h7.size
  refine ⟨q, c, hk.boxed h1 (kk _ (by omega)), hk.boxed h2 (kk _ (by omega)), hk.boxed h3 (kk _ (by omega)), hk.row h4 (fun b hb => (h5 b hb).2), fun b hb => ⟨(h5 b hb).1, fun hp' => ?_⟩, fun b hb => ?_, h7.trans (hk.mono fun _ _ h => h.elim), h8, h9, h10.trans ((hk.mono fun b _ hb => kk b (by omega)).below h10.size)⟩
  · rcases (hp b hp').1 with h' | h'
    · exact (h5 b hb).2 h'
    · have := (h4.lt b hb).2; omega
  · rcases (hp b hb).1 with h' | h'
    · exact h6 b h'
    · omega
def HsE (w : World) (r : Bool) (_ : List (Nat × List UInt8)) (W : World) : Prop := Boxed W w.heap.size 4 (.bool false) ∧ r = false ∧ Below w.heap.size w W

set_option maxRecDepth 100000 in
set_option maxHeartbeats 8000000 in
theorem isHost_any (q : Option Addr) (n c : Nat) (l : List UInt8) (w : World) (hl : l.length = n) (hn : n ≤ 253) (h : Lib.BytesIn w q n (Lib.numsL l)) :
    Calls Tryd.prog 54 #[.slice q n c] w fun e w' => e = .returned (.bool (hostB (Ref.splitL 46 l))) ∧ Below w.heap.size w w' := by
  refine (callsIn_wide (n := 1)).1 ?_
  refine callsIn_of_wp_marks Tryd.func54 rfl trivial ?_ rfl
  simp only [Tryd.ntmps54, List.size_toArray, List.length_cons, List.length_nil, Nat.reduceAdd, Nat.reduceSub, Array.replicate_succ, Array.replicate_zero, List.push_toArray, List.append_toArray, List.nil_append, List.cons_append]
  obtain ⟨W0, hW0⟩ : ∃ W0, ((w.alloc (.cells #[.bool false] 4)).alloc (.cells #[.slice none 0 0] 22)).alloc (.cells #[.int .i64 0] 3) = W0 := ⟨_, rfl⟩
  have b0 : Boxed W0 w.heap.size 4 (.bool false) := hW0 ▸ ((Boxed.new w _ _).alloc _).alloc _
  have b1 : Boxed W0 (w.heap.size + 1) 22 (.slice none 0 0) := by
    have := (Boxed.new (w.alloc (.cells #[.bool false] 4)) 22 (.slice none 0 0)).alloc (.cells #[.int .i64 0] 3)
    rw [World.size_alloc] at this
    exact hW0 ▸ this
  have b2 : Boxed W0 (w.heap.size + 2) 3 (.int .i64 0) := by
    have := Boxed.new ((w.alloc (.cells #[.bool false] 4)).alloc (.cells #[.slice none 0 0] 22)) 3 (.int .i64 0)
    rw [World.size_alloc, World.size_alloc] at this
    exact hW0 ▸ this
  have hB0 : Below w.heap.size w W0 := hW0 ▸ (((Below.refl _ w).alloc (Nat.le_refl _) _).alloc (by simp) _).alloc (by simp only [World.size_alloc]; omega) _
  have hs0 : W0.heap.size = w.heap.size + 3 := by rw [← hW0]; simp
  have hql := bytes_lt h
  have hb0 := bytes_keep h (Keep.of_below hB0) (fun a h1 h2 => bytes_lt h a h1 h2)
  have con := Split_any q n c 46 l W0 hl (by omega) hb0
  have hsmall := splitX_small 46 l n hl
  have hlenX := splitX_len 46 l
  have hneX : 0 < (splitX 46 l).length := by rw [splitX_length]; exact List.length_pos_iff.2 (Ref.split_ne 46 l)
  rw [hl] at hlenX
  have HW0 := Lib.hid hW0
  have HX := Lib.hid (hostX l)
  have HA := Lib.hid (address_of l (by omega))
  have conA := fun W hb => Address_any q n c l W hl (by omega) hb
  clear hW0 hb0 hl
  generalize addrB (Ref.splitL 46 l) = ab at *
  generalize hostB (Ref.splitL 46 l) = hb at *
  generalize addressB l = ad at *
  gi_wp2_with fail
  rw [HW0.out]
  refine ⟨trivial, (callsIn_wide.2 con).mono ?_⟩
  rintro e W1 ⟨B, v', rfl, hB, hBc, hrow, hBl, hbel⟩
  have hit := Split_iter (by omega) hB hBc hrow
  have hRl0 : ∀ b, (b = B ∨ b = W0.heap.size ∨ v'.ownBlock = some b) → w.heap.size + 3 ≤ b ∧ b < W1.heap.size := fun b hb => by
    rcases hb with rfl | rfl | hb
    · exact ⟨by omega, hB.lt⟩
    · exact ⟨by omega, hBc.lt⟩
    · have := hrow.lt b hb; exact ⟨by omega, this.2⟩
  obtain ⟨RB, hRB⟩ : ∃ RB : Nat → Prop, RB = fun b => b = B ∨ b = W0.heap.size ∨ v'.ownBlock = some b := ⟨_, rfl⟩
  rw [← hRB, hs0] at hit
  have hRl : ∀ b, RB b → w.heap.size + 3 ≤ b ∧ b < W1.heap.size := fun b hb => hRl0 b (by rw [hRB] at hb; exact hb)
  clear hRB hRl0
  replace b0 := (Keep.of_below hbel).boxed b0 (by omega)
  replace b1 := (Keep.of_below hbel).boxed b1 (by omega)
  replace b2 := (Keep.of_below hbel).boxed b2 (by omega)
  have hB1 := hB0.trans (hbel.mono hB0.size)
  have hs1 := hbel.size
  clear con hB hBc hrow hBl hbel HW0 hB0
  generalize splitX 46 l = xs at *
  gi_wp2
  rw [hs0] at hs1
  clear hs0
  refine rf_law (gf := 47) (lb := #[.pointer (some ⟨B, 0, none⟩), .pointer (some ⟨w.heap.size + 3, 0, none⟩)]) rfl (enters_of Tryd.func47 (by kernel_rfl) rfl)
    hit (Keep.refl _ _) (fun b hb => (hRl b hb).2) (fun x args G W h => by obtain ⟨v, rfl, _⟩ := h; rfl)
    (HsI w W1) (EvX W1 (HsE w hb)) (HsI_abide hs1) (EvX_abide ?e2)
    ⟨none, 0, b0, b1, b2, World.ownsRow_nil _ _ _ _, (fun _ h => by cases h), (fun _ h => h.elim), Keep.refl _ _, rfl, Nat.zero_le _, hB1⟩ ?round ?done ?stop
  case e2 =>
    rintro pre A B hk ⟨h1, h3, h4⟩
    exact ⟨hk.boxed h1 (by omega), h3, h4.trans ((hk.mono fun b _ hb => by omega).below h4.size)⟩
  case round =>
    rintro ll pre ⟨xi, x⟩ rest Pv G args Wr hll hxs ⟨q1, c1, hE1, hE2, hE3, hE4, hE5, hge, hK1, hE6, hE7, hE8⟩ hPl hGl hPb hGP ⟨p, rfl, hp, rfl⟩
    have hxm : (xi, x) ∈ xs := by rw [hxs]; simp
    have hxl := hsmall _ hxm
    simp only at hxl hp
    obtain ⟨qx, cx, rfl, _, hnc, hcm, hbs, hblk⟩ := row_open hp
    have hlen : pre.length + rest.length + 1 = xs.length := by rw [hxs]; simp; omega
    clear hxs
    gi_wp2
    refine ⟨Keep.refl _ _, fun W2 hk2 hs2 r hr => ?_⟩
    have k2 : Keep (fun b => b < W1.heap.size) Wr W2 := hk2.mono fun b _ hb h => by omega
    have f1 := k2.boxed hE1 (by omega)
    have f2 := k2.boxed hE2 (by omega)
    have f3 := k2.boxed hE3 (by omega)
    have gx : Keep (fun b => (Value.slice qx x.length cx).ownBlock = some b) Wr W2 := hk2.mono fun b _ hb h => hGl (h ▸ hb)
    have hbs2 : Lib.BytesIn W2 qx x.length (Lib.numsL x) := bytes_keep hbs gx (fun a ha _ => (hblk a ha).2.2)
    have hp2 := gx.row hp (fun _ h => h)
    have con2 := isPart_any qx x.length cx x W2 rfl (by omega) hbs2
    have k1 := f1.cell
    have k2' := f2.cell
    have k3 := f3.cell
    have z1 := f1.frozen
    have z2 := f2.frozen
    have z3 := f3.frozen
    have hW2 := hE8.trans ((k2.mono fun b _ h => by omega).below hE8.size)
    have hs2' := hE8.size
    have hK2 := hK1.trans (hk2.mono fun _ _ h => h.elim)
    have hGge : ∀ b, (Value.slice qx x.length cx).ownBlock = some b → W1.heap.size ≤ b := fun b h => hge b (hGP b h)
    have keep0 : Keep (fun b => RB b ∨ (Pv b ∧ ¬ (Value.slice qx x.length cx).ownBlock = some b)) W2 (W2.setCell ⟨w.heap.size, 0, none⟩ (.bool false)) := Keep.setCell _ _ _ fun h => by
      rcases h with h | h
      · have := (hRl _ h).1; simp only at this; omega
      · have := hge _ h.1; simp only at this; omega
    clear hbs hp hbs2 hblk hk2 gx hE4 hE5
    by_cases h8 : pre.length = 8
    · have HB := Lib.hid (show hb = false by rw [HX.out, decide_eq_false (by omega)]; rfl)
      have e8 : ((pre.length : Int) == 8) = true := by rw [beq_iff_eq]; omega
      clear con2 hxm h8
      gi_wp2_with fail
      refine ⟨trivial, ?_⟩
      gi_wp2
      exact ⟨keep0, rfl, fun b hb => hge b hb.1, hK2.trans (Keep.setCell _ _ _ (fun h => h)), f1.set _, HB.out, hW2.setCell (p := ⟨w.heap.size, 0, none⟩) (Nat.le_refl _) _⟩
    · have e8 : ((pre.length : Int) == 8) = false := by rw [beq_eq_false_iff_ne]; omega
      cases hpb : partB x with
      | false =>
        have HB := Lib.hid (show hb = false by
          have h1 : (xs.all fun x => partB x.2) = false := by rw [List.all_eq_false]; exact ⟨_, hxm, by rw [hpb]; simp⟩
          rw [HX.out, h1]; simp)
        rw [hpb] at con2
        clear hpb hxm h8
        gi_wp2_with fail
        refine ⟨trivial, rfl, (CallsIn.inRound ll (callsIn_wide.2 con2)).mono ?_⟩
        rintro e w' ⟨rfl, rfl⟩
        clear con2
        gi_wp2
        exact ⟨keep0, rfl, fun b hb => hge b hb.1, hK2.trans (Keep.setCell _ _ _ (fun h => h)), f1.set _, HB.out, hW2.setCell (p := ⟨w.heap.size, 0, none⟩) (Nat.le_refl _) _⟩
      | true =>
        have HB := Lib.hid (show ((pre ++ [(xi, x)]).all fun x => partB x.2) = true by rw [List.all_append, hE6]; simp [hpb])
        have HPL := Lib.hid (show ((pre ++ [(xi, x)]).length : Int) = (pre.length : Int) + 1 by simp)
        have HP8 := Lib.hid (show (pre ++ [(xi, x)]).length ≤ 8 by simp; omega)
        have HLX := Lib.hid (lastX_snoc pre (xi, x))
        rw [hpb] at con2
        clear hpb hxm h8 keep0 HX
        gi_wp2_with fail
        refine ⟨trivial, rfl, (CallsIn.inRound ll (callsIn_wide.2 con2)).mono ?_⟩
        rintro e w' ⟨rfl, rfl⟩
        clear con2
        gi_wp2
        have kst : ∀ S : Nat → Prop, ¬ S (w.heap.size + 1) → ¬ S (w.heap.size + 2) → Keep S W2 ((W2.setCell ⟨w.heap.size + 1, 0, none⟩ (.slice qx x.length cx)).setCell ⟨w.heap.size + 1 + 1, 0, none⟩ (.int .i64 ((pre.length : Int) + 1))) := fun S h h' => (Keep.setCell _ _ _ h).trans (Keep.setCell _ _ _ h')
        have g1 := (kst (fun b => b = w.heap.size) (by omega) (by omega)).boxed f1 rfl
        have g2 := (Keep.setCell (S := fun b => b = w.heap.size + 1) (W2.setCell ⟨w.heap.size + 1, 0, none⟩ (.slice qx x.length cx)) ⟨w.heap.size + 1 + 1, 0, none⟩ (.int .i64 ((pre.length : Int) + 1)) (show ¬ w.heap.size + 1 + 1 = w.heap.size + 1 by omega)).boxed (f2.set (.slice qx x.length cx)) rfl
        have g3 := ((Keep.setCell (S := fun b => b = w.heap.size + 2) W2 ⟨w.heap.size + 1, 0, none⟩ (.slice qx x.length cx) (show ¬ w.heap.size + 1 = w.heap.size + 2 by omega)).boxed f3 rfl).set (.int .i64 ((pre.length : Int) + 1))
        have g4 := (kst (fun b => (Value.slice qx x.length cx).ownBlock = some b) (fun h => by have := hGge _ h; omega) (fun h => by have := hGge _ h; omega)).row hp2 (fun _ h => h)
        have g5 := (hW2.setCell (p := ⟨w.heap.size + 1, 0, none⟩) (Nat.le_succ _) (.slice qx x.length cx)).setCell (p := ⟨w.heap.size + 1 + 1, 0, none⟩) (show w.heap.size ≤ w.heap.size + 1 + 1 by omega) (.int .i64 ((pre.length : Int) + 1))
        have g6 := hK2.trans (kst (fun _ => False) (fun h => h) (fun h => h))
        refine ⟨kst _ (fun h => ?_) (fun h => ?_), ?_⟩
        · rcases h with h | h
          · have := (hRl _ h).1; omega
          · have := hge _ h.1; omega
        · rcases h with h | h
          · have := (hRl _ h).1; omega
          · have := hge _ h.1; omega
        · unfold HsI
          rw [HLX.out, HPL.out]
          exact ⟨qx, cx, g1, g2, g3, g4, fun b h => ⟨hGge b h, fun h' => h'.2 h⟩, fun b h => hge b h.1, g6, HB.out, HP8.out, g5⟩
  case done =>
    rintro D Pv Wd hD hPD hPl ⟨q1, c1, hE1, hE2, hE3, hE4, hE5, hge, hK1, hE6, hE7, hE8⟩ hK
    obtain ⟨y, hym, hyl⟩ := lastX_mem xs (List.length_pos_iff.1 hneX)
    have hpy := List.all_eq_true.1 hE6 y hym
    rw [← hyl] at hpy
    have hx8 := decide_eq_true hE7
    have HXX := Lib.hid (show hb = (!Ref.decB ((lastX xs).getD 0 0) || ab) by rw [HX.out, hx8, hE6]; simp)
    obtain ⟨_, _, hcl, _, hnc, hcm, hbs, hblk⟩ := row_open hE4
    cases hcl
    have hz : 0 < (lastX xs).length := by
      rcases Nat.eq_zero_or_pos (lastX xs).length with h0 | h0
      · rw [part_parts, List.eq_nil_of_length_eq_zero h0] at hpy; cases hpy
      · exact h0
    obtain ⟨bl, ol, rfl, hcl⟩ := hbs.at hz
    have ck0 : Wd.cell? ⟨bl, ol, none⟩ = some (.int .u8 (((lastX xs).getD 0 0).toNat : Int)) := by rw [← numsL_getD _ 0 hz]; exact hcl 0 hz
    have k2 := hE2.cell
    have k1 := hE1.cell
    have z1 := hE1.frozen
    have kp : ∀ (S : Nat → Prop) (W : World), ¬ S D → Keep S W (W.putObj D (.deferred none)) := fun S W h => Keep.putObj _ _ _ h
    have conB := conA Wd (bytes_keep h (Keep.of_below hE8) (fun a h1 h2 => hql a h1 h2))
    rw [HA.out] at conB
    have hszd := hE8.size
    have hDl := hPl D hPD
    generalize (lastX xs).getD 0 0 = y0 at *
    have con5 := isDigit_any y0 Wd
    have hy0 := Ref.u8_lt y0
    clear hE4 hE5 hym hyl hpy hcl hbs hblk hE2 hE3 HX hx8 hE6 hE7 conA h hsmall
    cases hd : Ref.decB y0 with
    | false =>
      have HB := Lib.hid (show hb = true by rw [HXX.out, hd]; rfl)
      rw [hd] at con5
      clear hd HXX conB
      gi_wp2_with fail
      refine ⟨trivial, (callsIn_wide.2 con5).mono ?_⟩
      rintro e w' ⟨rfl, rfl⟩
      clear con5
      gi_wp2_with fail
      refine ⟨trivial, ?_⟩
      gi_wp2
      have hKd : (Wd.setCell ⟨w.heap.size, 0, none⟩ (.bool true)).heap[D]? = some (.deferred (some [])) := (Keep.setCell (S := fun b => b = D) Wd ⟨w.heap.size, 0, none⟩ _ (show ¬ w.heap.size = D by omega)).heap rfl hK
      refine ⟨by simp, .inl ⟨_, _, rfl, run_takeDeferred hKd, ?_⟩⟩
      refine ⟨_, results_bool rfl _ _ w.heap.size _ rfl ((kp (fun b => b = w.heap.size) _ (by omega)).boxed (hE1.set _) rfl).cell, ?_, ?_⟩
      · rw [HB.out]
      · have h5 := hE8.setCell (p := ⟨w.heap.size, 0, none⟩) (Nat.le_refl _) (.bool true)
        exact h5.trans ((kp (fun b => b < w.heap.size) _ (by omega)).below h5.size)
    | true =>
      have HB := Lib.hid (show hb = ab by rw [HXX.out, hd]; rfl)
      rw [hd] at con5
      clear hd HXX
      gi_wp2_with fail
      refine ⟨trivial, (callsIn_wide.2 con5).mono ?_⟩
      rintro e w' ⟨rfl, rfl⟩
      clear con5
      gi_wp2_with fail
      refine ⟨trivial, (callsIn_wide.2 conB).mono ?_⟩
      rintro e w4 ⟨rfl, hb4⟩
      clear conB
      have e1 := (Keep.of_below hb4).boxed hE1 hE1.lt
      have k14 := e1.cell
      have z14 := e1.frozen
      have hK4 : w4.heap[D]? = some (.deferred (some [])) := (hb4.block D hDl).trans hK
      have hE4 := hE8.trans (hb4.mono hszd)
      gi_wp2
      have hKd : (w4.setCell ⟨w.heap.size, 0, none⟩ (.bool ab)).heap[D]? = some (.deferred (some [])) := (Keep.setCell (S := fun b => b = D) w4 ⟨w.heap.size, 0, none⟩ _ (show ¬ w.heap.size = D by omega)).heap rfl hK4
      refine ⟨by simp, .inl ⟨_, _, rfl, run_takeDeferred hKd, ?_⟩⟩
      refine ⟨_, results_bool rfl _ _ w.heap.size _ rfl ((kp (fun b => b = w.heap.size) _ (by omega)).boxed (e1.set _) rfl).cell, ?_, ?_⟩
      · rw [HB.out]
      · have h5 := hE4.setCell (p := ⟨w.heap.size, 0, none⟩) (Nat.le_refl _) (.bool ab)
        exact h5.trans ((kp (fun b => b < w.heap.size) _ (by omega)).below h5.size)
  case stop =>
    rintro D cc pre rest Pv Wd hD hPD hPl hxs ⟨rfl, hge, hK1, hE1, hE3, hE4⟩ hK
    have kp : ∀ (S : Nat → Prop) (W : World), ¬ S D → Keep S W (W.putObj D (.deferred none)) := fun S W h => Keep.putObj _ _ _ h
    clear hxs
    gi_wp2
    refine ⟨by simp, .inl ⟨_, _, rfl, run_takeDeferred hK, ?_⟩⟩
    refine ⟨_, results_bool rfl _ _ w.heap.size _ rfl ((kp (fun b => b = w.heap.size) _ (by omega)).boxed hE1 rfl).cell, ?_, ?_⟩
    · rw [hE3]
    · exact hE4.trans ((kp (fun b => b < w.heap.size) _ (by omega)).below hE4.size)

end Go.Proofs.YtdbpbfbjebjbeaaDoor.Host

namespace Go.Proofs.YtdbpbfbjebjbeaaDoor.Url
open Go.RowKit Go.Shelf
attribute [local go_sem] Oper.semAt_some

/-- The slice v reads as l. -/
def By (w : World) (v : Value) (l : List UInt8) : Prop :=
  ∃ q c, v = .slice q l.length c ∧ l.length ≤ c ∧ c ≤ maxLen ∧ (q = none → c = 0) ∧ Lib.BytesIn w q l.length (Lib.numsL l)
theorem by_nil (w : World) : By w (.slice none 0 0) [] := ⟨none, 0, rfl, Nat.le_refl _, Nat.zero_le _, fun _ => rfl, Lib.BytesIn.nil _ _ _⟩
theorem bytes_on {w w' : World} {q : Option Addr} {n : Nat} {xs : List Int} (h : Lib.BytesIn w q n xs) (hk : Below w.heap.size w w') : Lib.BytesIn w' q n xs := bytes_keep h (Keep.of_below hk) (bytes_lt h)
theorem By.on {w w' : World} {v : Value} {l : List UInt8} (h : By w v l) (hk : Below w.heap.size w w') : By w' v l := by
  obtain ⟨q, c, h1, h2, h3, h4, h5⟩ := h
  exact ⟨q, c, h1, h2, h3, h4, bytes_on h5 hk⟩
theorem By.row {w : World} {base n : Nat} {v : Value} {l : List UInt8} (h : w.ownsRow base 5 1 v n ((Lib.numsL l).map (Value.int .u8))) : By w v l := by
  obtain ⟨q, c, rfl, rfl, h2, h3, h4, h5⟩ := row_open h
  refine ⟨q, c, rfl, h2, h3, fun hq => ?_, h4⟩
  subst hq
  rcases h.2 with ⟨hv, _⟩ | ⟨g, cap, cur, hv, _⟩
  · injection hv
  · cases hv
theorem below_drewN (w : World) (m : Nat) : Below w.heap.size w (w.drewN m) := ⟨rfl, rfl, rfl, Nat.le_refl _, fun _ _ => rfl⟩
/-- By its parts. -/
theorem By.at {w : World} {q : Option Addr} {n c : Nat} {l : List UInt8} (h : By w (.slice q n c) l) : l.length = n ∧ n ≤ c ∧ c ≤ maxLen ∧ (q = none → n = 0 ∧ c = 0) ∧ Lib.BytesIn w q n (Lib.numsL l) := by
  obtain ⟨q', c', he, h2, h3, h4, h5⟩ := h
  cases he
  exact ⟨rfl, h2, h3, fun hq => by have := h4 hq; omega, h5⟩
theorem By.of {w : World} {q : Option Addr} {n c : Nat} {l : List UInt8} (h1 : l.length = n) (h2 : n ≤ c) (h3 : c ≤ maxLen) (h4 : q = none → c = 0) (h5 : Lib.BytesIn w q n (Lib.numsL l)) : By w (.slice q n c) l := by
  subst h1; exact ⟨q, c, rfl, h2, h3, h4, h5⟩

theorem run_slice_at (q : Option Addr) (n c i : Nat) (W : World) (hi : i ≤ n) :
    (Instr.slice 22 (.slice q n c) (some (.int .i64 (i : Int))) none none).run Tryd.prog W = .ok (.slice (subA q c i) (n - i) (c - i)) W := by
  have hs : ∀ w, (Go.sizeOf 5).run Tryd.prog w = .ok 1 w := Tryd.sizeOf5
  have he : Tryd.prog.elem 22 = 5 := by kernel_rfl
  have h := run_slice_l (P := Tryd.prog) (w := W) 22 q n c (by rw [he]; exact Tryd.underlying22) .i64 (i : Int) (by omega) (by omega)
  rw [h, he, hs]
  simp only [Result.andThen, sliced, subA, Nat.mul_one, Int.toNat_natCast]
theorem subA_none {q : Option Addr} {c l : Nat} (h : subA q c l = none) : q = none := by
  unfold subA at h
  split at h
  · exact h
  · cases q with
    | none => rfl
    | some a => simp at h
/-- A piece of what a slice reads as. -/
theorem By.sub {w : World} {q : Option Addr} {n c i j : Nat} {l : List UInt8} (h : By w (.slice q n c) l) (hij : i ≤ j) (hj : j ≤ n) : By w (.slice (subA q c i) (j - i) (c - i)) (sub l i j) := by
  obtain ⟨h1, h2, h3, h4, h5⟩ := h.at
  exact By.of (sub_length l i j (by omega)) (by omega) (by omega) (fun hq => by have := h4 (subA_none hq); omega) (bytes_sub h5 h1 hij hj h2)

set_option maxRecDepth 100000 in
set_option maxHeartbeats 8000000 in
theorem atSlash_any (q : Option Addr) (n c : Nat) (l : List UInt8) (w : World) (h : By w (.slice q n c) l) :
    Calls Tryd.prog 32 #[.slice q n c] w fun e w' => ∃ v1 v2, e = .returned (.tuple #[v1, v2]) ∧ By w v1 (aheadL 47 l) ∧ By w v2 (l.drop (aheadL 47 l).length) ∧ Below w.heap.size w w' ∧ w'.heap = w.heap := by
  obtain ⟨hl, hnc, hcm, hnil, hb⟩ := h.at
  have hix := IndexByte_any q n c l 47 w hl hnil hb
  have hge := Lib.indexByte_ge l 47
  have hlt := index_lt l 47
  have ha := (at_ahead 47 l).1
  by_cases h0 : 0 ≤ Lib.indexByte l 47
  · obtain ⟨k, hk⟩ : ∃ k : Nat, Lib.indexByte l 47 = (k : Int) := ⟨(Lib.indexByte l 47).toNat, by omega⟩
    obtain ⟨e1, _, _⟩ := at_found 47 l k hk
    rw [hk] at hix hlt
    have hkn : k < n := by omega
    have hlk : (l.take k).length = k := by rw [List.length_take]; omega
    have hb1 := h.sub (Nat.zero_le k) (by omega)
    have hb2 := h.sub (show k ≤ n from by omega) (Nat.le_refl n)
    rw [← ha, e1, hlk]
    rw [sub_to, Nat.sub_zero, Nat.sub_zero] at hb1
    rw [← hl, sub_from, hl] at hb2
    have hr1 : ∀ W, (Instr.slice 22 (.slice q n c) none (some (.int .i64 (k : Int))) none).run Tryd.prog W = .ok (.slice (subA q c 0) k c) W := fun W => run_slice_to q n c k W (by omega)
    have hr2 : ∀ W, (Instr.slice 22 (.slice q n c) (some (.int .i64 (k : Int))) none none).run Tryd.prog W = .ok (.slice (subA q c k) (n - k) (c - k)) W := fun W => run_slice_at q n c k W (by omega)
    clear e1 h0 hge hk h hlk ha hb hnil hl
    generalize l.take k = l1 at *
    generalize l.drop k = l2 at *
    generalize hqa : subA q c 0 = qa at *
    generalize hqb : subA q c k = qb at *
    clear hqa hqb
    go_enter Tryd.func32, Tryd.ntmps32
    go_wp2_with fail
    refine hix.mono ?_
    rintro e w' ⟨rfl, hw⟩
    subst hw
    go_wp2
    go_quiet (fail)
    go_wp2
    go_ret2
    exact ⟨_, _, rfl, hb1, hb2, below_drewN _ _, rfl⟩
  · have h1 : Lib.indexByte l 47 = -1 := by omega
    obtain ⟨e1, _, _⟩ := at_none 47 l h1
    rw [h1] at hix
    rw [← ha, e1, List.drop_length]
    clear e1 h0 hge h1 ha hb hnil hl
    go_enter Tryd.func32, Tryd.ntmps32
    go_wp2_with fail
    refine hix.mono ?_
    rintro e w' ⟨rfl, hw⟩
    subst hw
    go_wp2
    go_ret2
    exact ⟨_, _, rfl, h, by_nil _, Below.refl _ _, rfl⟩

end Go.Proofs.YtdbpbfbjebjbeaaDoor.Url

namespace Go.Proofs.YtdbpbfbjebjbeaaDoor.Ck
open Url Hdr
set_option linter.unusedVariables false

theorem split_head (c : UInt8) : ∀ l : List UInt8, Ref.splitL c l = aheadL c l :: (match Host.tailL c l with | none => [] | some r => Ref.splitL c r)
  | [] => rfl
  | b :: r => by
    by_cases hb : b = c
    · subst hb
      rw [Ref.split_is]
      simp [aheadL, Host.tailL]
    · rw [Ref.split_not c b r hb, split_head c r]
      simp [aheadL, Host.tailL, hb, Ref.onto]
theorem attr_nil (c : Ck) : attr c [] = some c := by
  have k : keyL [] = [] := by decide
  unfold attr
  rw [if_neg (by rw [k]; decide), if_neg (by rw [k]; decide), if_neg (by rw [k]; decide), if_neg (by rw [k]; decide)]
theorem txt_at (p : List UInt8) : txtL p = trimB (atSnd 61 p) ∧ aheadL 61 p = atFst 61 p := by
  obtain ⟨h1, h2, h3⟩ := at_ahead 61 p
  refine ⟨?_, h1.symm⟩
  unfold txtL
  rw [h2]
  cases h : atOk 61 p with
  | true => rfl
  | false => rw [h3 h]; rfl
theorem cookie_go (t : List UInt8) : cookieL t = match headC (atFst 59 t) with | none => none | some c => attrs c (Ref.splitL 59 (atSnd 59 t)) := by
  obtain ⟨h1, h2, h3⟩ := at_ahead 59 t
  unfold cookieL
  rw [split_head 59 t, h2, h1]
  cases h : atOk 59 t with
  | true => rfl
  | false =>
    rw [h3 h]
    simp only [Bool.false_eq_true, if_false]
    cases headC (aheadL 59 t) with
    | none => rfl
    | some c =>
      show some c = attrs c (Ref.splitL 59 [])
      have : Ref.splitL 59 [] = [[]] := by simp [Ref.splitL]
      rw [this]
      simp only [attrs, attr_nil]

/-! ### the text, piece by piece -/
def pathT (c : Ck) : List UInt8 := if c.path = [] then [] else [59, 32, 80, 97, 116, 104, 61] ++ c.path
def domT (c : Ck) : List UInt8 := if c.dom = [] then [] else [59, 32, 68, 111, 109, 97, 105, 110, 61] ++ c.dom
def ageT (c : Ck) : List UInt8 := if c.age < 0 then [] else [59, 32, 77, 97, 120, 45, 65, 103, 101, 61] ++ digL c.age.toNat
def secT (c : Ck) : List UInt8 := if c.secure = true then [59, 32, 83, 101, 99, 117, 114, 101] else []
theorem join_flat (c : UInt8) : ∀ (l : List (List UInt8)) (p : List UInt8), Ref.joinL c (p :: l) = p ++ l.flatMap fun q => c :: q
  | [], p => by simp [Ref.joinL]
  | q :: l, p => by
    show p ++ c :: Ref.joinL c (q :: l) = _
    rw [join_flat c l q, List.flatMap_cons]
    rfl
theorem text_is (c : Ck) : textC c = (c.name ++ [61]) ++ c.value ++ pathT c ++ domT c ++ ageT c ++ secT c := by
  unfold textC
  rw [join_flat, List.flatMap_append, List.flatMap_append, List.flatMap_append]
  have e1 : ((pathP c).flatMap fun q => 59 :: q) = pathT c := by
    unfold pathP pathT
    split <;> simp
  have e2 : ((domP c).flatMap fun q => 59 :: q) = domT c := by
    unfold domP domT
    split <;> simp
  have e3 : ((ageP c).flatMap fun q => 59 :: q) = ageT c := by
    unfold ageP ageT
    split <;> simp
  have e4 : ((secP c).flatMap fun q => 59 :: q) = secT c := by
    unfold secP secT
    split <;> simp
  rw [e1, e2, e3, e4]
  simp

/-! ### the last slash -/
theorem drop_all : ∀ l : List UInt8, (∀ b ∈ l, b ≠ 47) → ∀ m : List UInt8, (l ++ m).dropWhile (· != 47) = m.dropWhile (· != 47)
  | [], _, m => rfl
  | b :: l, h, m => by
    have hb := h b (by simp)
    rw [List.cons_append, List.dropWhile_cons, if_pos (by simpa using hb)]
    exact drop_all l (fun x hx => h x (by simp [hx])) m
theorem last_at (l : List UInt8) (k : Nat) (hk : k < l.length) (h1 : l.getD k 0 = 47) (h2 : ∀ j, k < j → j < l.length → l.getD j 0 ≠ 47) : lastS l = l.take (k + 1) := by
  have hs : l.reverse = (l.drop (k + 1)).reverse ++ (l.take (k + 1)).reverse := by rw [← List.reverse_append, List.take_append_drop]
  have hd : ∀ b ∈ (l.drop (k + 1)).reverse, b ≠ 47 := fun b hb => by
    rw [List.mem_reverse] at hb
    obtain ⟨i, hi, rfl⟩ := List.getElem_of_mem hb
    rw [List.length_drop] at hi
    have := h2 (k + 1 + i) (by omega) (by omega)
    rw [List.getD, List.getElem?_eq_getElem (by omega)] at this
    simpa using this
  have ht : (l.take (k + 1)).reverse = 47 :: (l.take k).reverse := by
    rw [List.take_succ_eq_append_getElem hk, List.reverse_append]
    rw [List.getD, List.getElem?_eq_getElem hk] at h1
    simpa using h1
  unfold lastS
  rw [hs, drop_all _ hd, ht, List.dropWhile_cons, if_neg (by decide), ← ht, List.reverse_reverse]
theorem last_none (l : List UInt8) (h : ∀ j, j < l.length → l.getD j 0 ≠ 47) : lastS l = [] := by
  have hd : ∀ b ∈ l.reverse, b ≠ 47 := fun b hb => by
    rw [List.mem_reverse] at hb
    obtain ⟨i, hi, rfl⟩ := List.getElem_of_mem hb
    have := h i hi
    rw [List.getD, List.getElem?_eq_getElem hi] at this
    simpa using this
  have := drop_all l.reverse hd []
  unfold lastS
  rw [List.append_nil] at this
  rw [this]
  rfl
/-- A cookie's path without one of its own, set where the last slash is at k. -/
theorem home_at (c : Ck) (l : List UInt8) (k : Nat) (h0 : c.path = []) (hk : k < l.length) (h1 : l.getD k 0 = 47) (h2 : ∀ j, k < j → j < l.length → l.getD j 0 ≠ 47) : homeL c l = l.take (max k 1) := by
  unfold homeL
  rw [if_pos h0, last_at l k hk h1 h2, List.length_take]
  by_cases hk0 : k = 0
  · subst hk0
    rw [if_neg (by omega)]
    rfl
  · rw [if_pos (by omega), show max k 1 = k by omega, List.dropLast_eq_take, List.length_take, List.take_take]
    congr 1
    omega
theorem home_none (c : Ck) (l : List UInt8) (h0 : c.path = []) (h : ∀ j, j < l.length → l.getD j 0 ≠ 47) : homeL c l = [] := by
  unfold homeL
  rw [if_pos h0, last_none l h]
  rfl
theorem home_own (c : Ck) (l : List UInt8) (h0 : c.path ≠ []) : homeL c l = c.path := by
  unfold homeL
  rw [if_neg h0]
/-! ### what goes on -/
/-- As the program asks it. -/
def goesB (h p : List UInt8) : Bool := h.isPrefixOf p && (decide ((p.drop h.length).length = 0) || decide ((p.drop h.length).head? = some 47) || decide (h.getLast? = some 47))
theorem goes_here (h p : List UInt8) : goesB h p = hereB h p := by
  unfold goesB hereB
  cases hp : h.isPrefixOf p with
  | false =>
    have h1 : ¬ p = h := fun e => by
      subst e
      have : p.isPrefixOf p = true := List.isPrefixOf_iff_prefix.2 (List.prefix_refl p)
      rw [hp] at this; cases this
    have h2 : (slashL h).isPrefixOf p = false := by
      rw [← Bool.not_eq_true, List.isPrefixOf_iff_prefix]
      intro hs
      have : h <+: p := by
        refine List.IsPrefix.trans ?_ hs
        unfold slashL
        split
        · exact List.prefix_refl h
        · exact List.prefix_append h [47]
      rw [← List.isPrefixOf_iff_prefix, hp] at this
      cases this
    rw [h2]
    simp [h1]
  | true =>
    obtain ⟨r, rfl⟩ := List.isPrefixOf_iff_prefix.1 hp
    rw [List.drop_left, Bool.true_and]
    unfold slashL
    by_cases hl : h.getLast? = some 47
    · rw [if_pos hl, hp]
      simp [hl]
    · rw [if_neg hl]
      have e1 : (decide (h ++ r = h)) = decide (r.length = 0) := by simp
      have e2 : (h ++ [47]).isPrefixOf (h ++ r) = decide (r.head? = some 47) := by
        rw [Bool.eq_iff_iff, List.isPrefixOf_iff_prefix, List.prefix_append_right_inj, decide_eq_true_iff]
        cases r with
        | nil => simp
        | cons x r => simp [List.cons_prefix_cons, eq_comm]
      rw [e1, e2]
      simp [hl]
end Go.Proofs.YtdbpbfbjebjbeaaDoor.Ck

namespace Go.Proofs.YtdbpbfbjebjbeaaDoor.Url
open Go.RowKit Go.Shelf
attribute [local go_sem] Oper.semAt_some

def byV (l : List UInt8) : List Value := (Lib.numsL l).map (Value.int .u8)
theorem byV_app (l m : List UInt8) : byV (l ++ m) = byV l ++ byV m := by simp [byV, Lib.numsL]

set_option maxRecDepth 100000 in
set_option maxHeartbeats 4000000 in
theorem Grow_nil (n : Nat) (w : World) (h0 : 0 < n) (hn : n ≤ 1099511627776) :
    Calls Tryd.prog 89 #[.slice none 0 0, .int .i64 n] w fun e w' => ∃ v, e = .returned v ∧ w'.ownsRow w.heap.size 5 1 v 0 [] ∧ Below w.heap.size w w' := by
  obtain ⟨i0, hi0, hz0, hz1, hz2⟩ := info_parts info_u8
  have h1 : ¬ ((n : Int) < 0) := by omega
  have h4 : (n : Int) > 0 := by omega
  have h4' : decide (0 < n) = true := by simp; omega
  have hold : (Builtin.firstCells i0.size 0 (.slice none 0 0)).run Tryd.prog w.drew = .ok ([] : List Value).toArray w.drew := run_firstCells_none w.drew i0.size 0 0 0
  have hrz := Lib.run_append_grow_zeros (P := Tryd.prog) w 22 3 22 5 i0 (.int .u8 0) .i64 .i64 Tryd.underlying22 Tryd.underlying3 hi0 hz0 none 0 0 [] hold n h0 (by omega) (by omega) (by omega) (by rw [hz2]; omega)
    (growslice_fits (by omega) (by rw [hz2]; omega))
  simp only [Nat.zero_add] at hrz
  have hG : n ≤ grownCap w n 0 5 := grownCap_ge w _ _ _
  have hGm : grownCap w n 0 5 ≤ maxLen := grownCap_le_maxLen w n 0 5 (by unfold maxLen; omega)
  have hz : ∀ k, (Builtin.zeroCells (Value.int IntKind.u8 0).cells k).size = k := fun k => by simp [Builtin.zeroCells, Value.cells]
  have hsz : (([] : List Value).toArray ++ Builtin.zeroCells (Value.int IntKind.u8 0).cells n ++ Builtin.zeroCells (Value.int IntKind.u8 0).cells (grownCap w n 0 5 - n)).size = grownCap w n 0 5 * 1 := by
    rw [Array.size_append, Array.size_append, hz, hz, List.size_toArray, List.length_nil]; omega
  have hown := World.ownsRow_made (e := 5) (size := 1) (base := w.heap.size) w.drew _ (grownCap w n 0 5) (Nat.le_refl _) hGm hsz
  have hbel := (Below.refl w.heap.size w).drew.alloc (Nat.le_refl _) (.cells (([] : List Value).toArray ++ Builtin.zeroCells (Value.int IntKind.u8 0).cells n ++ Builtin.zeroCells (Value.int IntKind.u8 0).cells (grownCap w n 0 5 - n)) 5)
  have hgm : ((grownCap w n 0 5 : Nat) : Int) ≤ 9223372036854775807 := by unfold maxLen at hGm; omega
  clear hold hsz hGm hz
  generalize grownCap w n 0 5 = G at *
  generalize (([] : List Value).toArray ++ Builtin.zeroCells (Value.int IntKind.u8 0).cells n ++ Builtin.zeroCells (Value.int IntKind.u8 0).cells (G - n)) = cs at *
  go_enter Tryd.func89, Tryd.ntmps89
  go_wp2_with (at_builtin; refine Lib.wpList_append_run _ rfl _ _ _ _ rfl _ _ rfl rfl _ _ hrz ?_)
  go_ret
  exact ⟨_, rfl, hown, hbel⟩

theorem flat_take (ls : List (List UInt8)) (k : Nat) (h : k < ls.length) : (ls.take (k + 1)).flatten = (ls.take k).flatten ++ ls.getD k [] := by
  rw [List.take_succ_eq_append_getElem h, List.flatten_append]
  simp [List.getD, List.getElem?_eq_getElem h]
theorem flat_take_le (ls : List (List UInt8)) (k : Nat) : (ls.take k).flatten.length ≤ ls.flatten.length := by
  have h : ls.flatten = (ls.take k).flatten ++ (ls.drop k).flatten := by rw [← List.flatten_append, List.take_append_drop]
  rw [h, List.length_append]; omega

set_option maxRecDepth 100000 in
set_option maxHeartbeats 4000000 in
theorem Concat_any (b m c : Nat) (ls : List (List UInt8)) (w : World) (hm : ls.length = m) (hmm : m ≤ 1000) (hP : ∀ i, i < m → ∃ q n c, w.cell? ⟨b, i, none⟩ = some (.slice q n c) ∧ By w (.slice q n c) (ls.getD i [])) (hs : ls.flatten.length ≤ 1099511627776) (h0 : 0 < ls.flatten.length) :
    Calls Tryd.prog 63 #[.slice (some ⟨b, 0, none⟩) m c] w fun e w' => ∃ v, e = .returned v ∧ w'.ownsRow w.heap.size 5 1 v ls.flatten.length (byV ls.flatten) ∧ Below w.heap.size w w' := by
  obtain ⟨N, hN⟩ : ∃ N, ls.flatten.length = N := ⟨_, rfl⟩
  rw [hN] at hs h0 ⊢
  have HN := Lib.hid hN
  have HP := Lib.hid hP
  have HM := Lib.hid hm
  clear hN hP hm
  have hb : 0 < m → b < w.heap.size := fun h => by obtain ⟨q, n, c, h1, _⟩ := HP.out 0 h; exact World.block_lt_of_cell? w _ h1
  have con := Grow_nil N w h0 hs
  go_enter Tryd.func63, Tryd.ntmps63
  go_wp2
  go_loop [3, 11] (fun s i => ∃ k t : Nat, k ≤ m ∧ i = .int .i64 k ∧ s = .int .i64 t ∧ Hid (t = (ls.take k).flatten.length)) (fun _ i => m - (intOf i).toNat)
  case atStart => exact ⟨0, 0, Nat.zero_le _, rfl, rfl, by simp [Hid]⟩
  case round =>
    obtain ⟨k, t, hk, rfl, rfl, HT⟩ := hrel
    by_cases hlt : k < m
    · obtain ⟨q, n, c', hc, hby⟩ := HP.out k hlt
      have ht : (ls.take (k + 1)).flatten.length = t + n := by rw [flat_take ls k (by rw [HM.out]; exact hlt), List.length_append, ← HT.out, hby.at.1]
      have hle := flat_take_le ls (k + 1)
      rw [HN.out, ht] at hle
      have HT2 := Lib.hid ht
      clear ht hby
      have d1 : decide ((t : Int) + (n : Int) < 0) = false := by simp; omega
      go_wp2
      go_round
      case rel => exact ⟨k + 1, t + n, by omega, by go_num, by go_num, HT2.out.symm⟩
      case measure => simp [intOf]; omega
    · have htN : t = N := by rw [HT.out, List.take_of_length_le (by rw [HM.out]; omega), HN.out]
      subst htN
      clear HT
      go_wp2_with fail
      refine con.mono ?_
      rintro e w1 ⟨v1, rfl, hown, hbel⟩
      clear con
      go_wp2
      go_loopw [6, 27] (fun v i wr => ∃ k n : Nat, k ≤ m ∧ i = .int .i64 k ∧ wr.ownsRow w.heap.size 5 1 v n (byV (ls.take k).flatten) ∧ Hid (n = (ls.take k).flatten.length) ∧ Below w.heap.size w wr) (fun _ i _ => m - (intOf i).toNat)
      case atStart => exact ⟨0, 0, Nat.zero_le _, rfl, hown, by simp [Hid], hbel⟩
      case round =>
        obtain ⟨j, n, hj, rfl, hrow, HR, hbw⟩ := hrel
        by_cases hjl : j < m
        · obtain ⟨q, n', c', hc, hby⟩ := HP.out j hjl
          have hc' : wr.cell? ⟨b, j, none⟩ = some (.slice q n' c') := (World.cell?_of_block (hbw.block _ (hb (by omega)))).trans hc
          obtain ⟨h1, h2, h3, h4, h5⟩ := (hby.on hbw).at
          have ht : (ls.take (j + 1)).flatten = (ls.take j).flatten ++ ls.getD j [] := flat_take ls j (by rw [HM.out]; exact hjl)
          have hle := flat_take_le ls (j + 1)
          have htl : (ls.take (j + 1)).flatten.length = n + n' := by rw [ht, List.length_append, ← HR.out, h1]
          rw [htl, HN.out] at hle
          have HT := Lib.hid ht
          have HTL := Lib.hid htl
          have hbs := hbw.size
          clear ht htl hc hby hown hbel h2 h3
          generalize ls.getD j [] = x at *
          go_wp2_with (at_builtin; refine wpList_append_bytes rfl _ _ rfl w.heap.size _ n _ rfl hrow q n' c' x rfl h4 h1 h5 (by omega) hbs ?_; intro v4 w4 hown4 hgrow4)
          go_roundw
          case rel =>
            refine ⟨j + 1, n + n', by omega, by go_num, ?_, HTL.out.symm, hbw.trans ((Below.refl _ _).grown hgrow4 hbs (fun b h => (hrow.lt b h).1))⟩
            rw [HT.out, byV_app]; exact hown4
          case measure => simp [intOf]; omega
        · have hnN : n = t := by rw [HR.out, List.take_of_length_le (by rw [HM.out]; omega), HN.out]
          have hall : ls.take j = ls := List.take_of_length_le (by rw [HM.out]; omega)
          subst hnN
          rw [hall] at hrow
          clear hall HR
          go_wp2
          go_ret
          exact ⟨_, rfl, hrow, hbw⟩

end Go.Proofs.YtdbpbfbjebjbeaaDoor.Url

namespace Go.Proofs.YtdbpbfbjebjbeaaDoor.Url
open Go.RowKit Go.Shelf

theorem low_own (l : List UInt8) (s : List UInt8) (hs : Ref.lowL s = s) : sameLow l s = decide (Ref.lowL l = s) := by
  unfold sameLow
  show decide (Ref.lowL l = Ref.lowL s) = _
  rw [hs]

set_option maxRecDepth 100000 in
set_option maxHeartbeats 4000000 in
theorem Own_any (q : Option Addr) (n c : Nat) (l : List UInt8) (w : World) (hl : l.length = n) (hn : n ≤ 140737488355328) (h : Lib.BytesIn w q n (Lib.numsL l)) :
    Calls Tryd.prog 31 #[.slice q n c] w fun e w' => e = .returned (.int .i64 (ownP (Ref.lowL l))) ∧ Below w.heap.size w w' := by
  have kc := fun (w : World) (C : Array Value) (n c : Nat) => Lib.run_convert_bytes_const (P := Tryd.prog) w 22 5 C n c Tryd.underlying22 Tryd.underlying5
  have b1 := bytes_lit (w := w) #[.int .u8 104, .int .u8 116, .int .u8 116, .int .u8 112] httpS (4, 5) rfl
  have hB1 := (Below.refl _ w).alloc (Nat.le_refl _) (.cells #[.int .u8 104, .int .u8 116, .int .u8 116, .int .u8 112] 5 (4, 5))
  have h1 := bytes_on h hB1
  have con1 := cutSame_any q (some ⟨w.heap.size, 0, none⟩) n c 4 4 l httpS _ hl rfl hn (by omega) h1 b1
  rw [low_own l httpS (by decide)] at con1
  have b2 := fun (w : World) => bytes_lit (w := w) #[.int .u8 104, .int .u8 116, .int .u8 116, .int .u8 112, .int .u8 115] httpsS (5, 6) rfl
  have hB2 := fun (w : World) => (Below.refl _ w).alloc (Nat.le_refl _) (.cells #[.int .u8 104, .int .u8 116, .int .u8 116, .int .u8 112, .int .u8 115] 5 (5, 6))
  by_cases e1 : Ref.lowL l = httpS
  · have H := Lib.hid (show (ownP (Ref.lowL l) : Int) = 80 by rw [e1]; rfl)
    rw [decide_eq_true e1] at con1
    clear b1 h1 b2 hB2 e1 h hl
    go_enter Tryd.func31, Tryd.ntmps31
    go_wp2_with fail
    refine con1.mono ?_
    rintro e w' ⟨rfl, rfl⟩
    clear con1
    go_wp2
    go_ret
    exact ⟨(by rw [H.out]; try rfl), hB1⟩
  · rw [decide_eq_false e1] at con1
    clear b1
    go_enter Tryd.func31, Tryd.ntmps31
    go_wp2_with fail
    refine con1.mono ?_
    rintro e W1 ⟨rfl, hW1⟩
    rw [hW1] at hB1 h1
    clear con1 hW1 h
    have h2 := bytes_on h1 (hB2 W1)
    have con2 := cutSame_any q (some ⟨W1.heap.size, 0, none⟩) n c 5 5 l httpsS _ hl rfl hn (by omega) h2 (b2 W1)
    rw [low_own l httpsS (by decide)] at con2
    have hB := hB1.trans ((hB2 W1).mono hB1.size)
    clear h2 b2 hB2 h1 hl hB1
    by_cases e2 : Ref.lowL l = httpsS
    · have H := Lib.hid (show (ownP (Ref.lowL l) : Int) = 443 by rw [e2]; rfl)
      rw [decide_eq_true e2] at con2
      clear e1 e2
      go_wp2_with fail
      refine con2.mono ?_
      rintro e w' ⟨rfl, rfl⟩
      clear con2
      go_wp2
      go_ret
      exact ⟨(by rw [H.out]; try rfl), hB⟩
    · have H := Lib.hid (show (ownP (Ref.lowL l) : Int) = 0 by unfold ownP; rw [if_neg e1, if_neg e2]; rfl)
      rw [decide_eq_false e2] at con2
      clear e1 e2
      go_wp2_with fail
      refine con2.mono ?_
      rintro e w' ⟨rfl, rfl⟩
      clear con2
      go_wp2
      go_ret
      exact ⟨(by rw [H.out]; try rfl), hB⟩

def sepS : List UInt8 := [58, 47, 47]
theorem nums_range (l : List UInt8) : ∀ x ∈ Lib.numsL l, 0 ≤ x ∧ x < 256 := fun x hx => by
  unfold Lib.numsL at hx
  obtain ⟨b, _, rfl⟩ := List.mem_map.1 hx
  have := u8_lt b
  omega
theorem By.take {w : World} {q : Option Addr} {n c k : Nat} {l : List UInt8} (h : By w (.slice q n c) l) (hk : k ≤ n) : By w (.slice q k c) (l.take k) := by
  obtain ⟨h1, h2, h3, h4, h5⟩ := h.at
  exact By.of (by rw [List.length_take]; omega) (by omega) h3 (fun hq => (h4 hq).2) (bytes_take h5 h1 hk)
theorem By.drop {w : World} {q : Option Addr} {n c k : Nat} {l : List UInt8} (h : By w (.slice q n c) l) (hk : k ≤ n) : By w (.slice (subA q c k) (n - k) (c - k)) (l.drop k) := by
  obtain ⟨h1, _⟩ := h.at
  have := h.sub hk (Nat.le_refl n)
  rw [← h1, sub_from, h1] at this
  exact this
theorem Cut_any (q qs : Option Addr) (n c cs : Nat) (l : List UInt8) (w : World) (h : By w (.slice q n c) l) (hn : n < 4294967281) (hG : Gl w) (hs : Lib.BytesIn w qs 3 (Lib.numsL sepS)) :
    Calls Tryd.prog 30 #[.slice q n c, .slice qs 3 cs] w fun e w' => e = .returned (Lib.cutV q n c 3 (sepI l)) ∧ ∃ m, w' = w.drewN m := by
  obtain ⟨⟨m, hm⟩, _⟩ := hG
  obtain ⟨h1, h2, h3, h4, h5⟩ := h.at
  have con := Tryd.bytes_Cut_all q qs n c 3 cs (Lib.numsL l) (Lib.numsL sepS) m w (by rw [Lib.numsL_length, h1]) rfl (nums_range l) (nums_range sepS) h5 hs (fun hq => (h4 hq).2) h2 hn (by omega) hm
  rw [bytesOf_numsL, bytesOf_numsL] at con
  exact con
theorem cut_some {q : Option Addr} {n c k : Nat} {l : List UInt8} (h : sepI l = (k : Int)) : Lib.cutV q n c 3 (sepI l) = .tuple #[.slice q k c, .slice (subA q c (k + 3)) (n - (k + 3)) (c - (k + 3)), .bool true] := by
  unfold Lib.cutV
  rw [h, if_pos (by omega), Int.toNat_natCast]
  rfl
theorem cut_none {q : Option Addr} {n c : Nat} {l : List UInt8} (h : sepI l = -1) : Lib.cutV q n c 3 (sepI l) = .tuple #[.slice q n c, .slice none 0 0, .bool false] := by
  unfold Lib.cutV
  rw [h, if_neg (by decide)]

end Go.Proofs.YtdbpbfbjebjbeaaDoor.Url

namespace Go.Proofs.YtdbpbfbjebjbeaaDoor.Host
open Go.RowKit Go.Shelf

/-- The canon of a host, or nothing. -/
def canL (l : List UInt8) : List UInt8 := if parseE l = 0 then Ref.lowL l else []
/-- A host's canon in a row of one's own, or the error's number. -/
def CanOut (l : List UInt8) (w : World) (e : Ending) (w' : World) : Prop :=
  ∃ v, e = .returned (.tuple #[v, .int .i64 (parseE l)]) ∧ w'.ownsRow w.heap.size 5 1 v (canL l).length ((Lib.numsL (canL l)).map (Value.int .u8)) ∧ Below w.heap.size w w'
theorem can_err {l : List UInt8} {n : Int} {w w' : World} (h : parseE l = n) (hn : n ≠ 0) (hb : Below w.heap.size w w') : CanOut l w (.returned (.tuple #[.slice none 0 0, .int .i64 n])) w' := by
  subst h
  have hc : canL l = [] := by unfold canL; rw [if_neg hn]
  exact ⟨_, rfl, by rw [hc]; exact World.ownsRow_nil _ _ _ _, hb⟩
theorem can_ok {l : List UInt8} {n : Nat} {v : Value} {w w' : World} (h : parseE l = 0) (hl : l.length = n) (hr : w'.ownsRow w.heap.size 5 1 v n ((Lib.numsL (lowL l)).map (Value.int .u8))) (hb : Below w.heap.size w w') : CanOut l w (.returned (.tuple #[v, .int .i64 0])) w' := by
  have hc : canL l = lowL l := by unfold canL; rw [if_pos h]; rfl
  exact ⟨_, by rw [h], by rw [hc, lowL_length, hl]; exact hr, hb⟩

set_option maxRecDepth 100000 in
set_option maxHeartbeats 4000000 in
theorem Parse_any (q : Option Addr) (n c : Nat) (l : List UInt8) (w : World) (hl : l.length = n) (hn : n ≤ 140737488355328) (h : Lib.BytesIn w q n (Lib.numsL l)) :
    Calls Tryd.prog 33 #[.slice q n c] w fun e w' => CanOut l w e w' := by
  by_cases hbig : 253 < n
  · have d1 : decide ((253 : Int) < (n : Int)) = true := by simp; omega
    have H := Lib.hid (Ref.parse_big l (by omega))
    clear h hl
    go_enter Tryd.func33, Tryd.ntmps33
    go_wp2
    go_ret2
    exact can_err H.out (by decide) (Below.refl _ _)
  · have d1 : decide ((253 : Int) < (n : Int)) = false := by simp; omega
    have con := isHost_any q n c l w hl (by omega) h
    have PH := Lib.hid (Ref.parse_host l (by omega))
    have PN := Lib.hid (Ref.parse_none l (by omega))
    have HL := Lib.hid hl
    cases hb : hostB (Ref.splitL 46 l) with
    | false =>
      have H := Lib.hid (PN.out hb)
      rw [hb] at con
      clear hb PH PN h hl
      go_enter Tryd.func33, Tryd.ntmps33
      go_wp2_with fail
      refine con.mono ?_
      rintro e w2 ⟨rfl, hb2⟩
      clear con
      go_wp2
      go_ret2
      exact can_err H.out (by decide) hb2
    | true =>
      have H := Lib.hid (PH.out hb)
      rw [hb] at con
      clear hb PH PN hl
      go_enter Tryd.func33, Tryd.ntmps33
      go_wp2_with fail
      refine con.mono ?_
      rintro e w2 ⟨rfl, hb2⟩
      have con2 := Lower_any q n c l w2 HL.out hn (bytes_keep h (Keep.of_below hb2) (fun a h1 h2 => bytes_lt h a h1 h2))
      clear con h
      go_wp2_with fail
      refine con2.mono ?_
      rintro e w3 ⟨v3, rfl, hrow, hb3⟩
      have hrow' := row_base hrow hb2.size
      have hb' := hb2.trans (hb3.mono hb2.size)
      clear con2 hrow
      go_wp2
      go_ret2
      exact can_ok H.out HL.out hrow' hb'

end Go.Proofs.YtdbpbfbjebjbeaaDoor.Host

namespace Go.Proofs.YtdbpbfbjebjbeaaDoor.Hdr
open Go Go.RowKit Go.Shelf Url
set_option linter.unusedVariables false

theorem blank_same (b : UInt8) : blankB b = blankB b := rfl
theorem dropWhile_drop (l : List UInt8) : ∀ f, f ≤ l.length → (∀ j, j < f → blankB (l.getD j 0) = true) → (f < l.length → blankB (l.getD f 0) = false) → l.dropWhile blankB = l.drop f := by
  induction l with
  | nil => intro f _ _ _; simp
  | cons x r ih =>
    intro f hf h1 h2
    cases f with
    | zero =>
      have := h2 (by simp)
      rw [List.getD_cons_zero] at this
      rw [List.dropWhile_cons, if_neg (by rw [this]; simp), List.drop_zero]
    | succ f =>
      have h0 := h1 0 (by omega)
      rw [List.getD_cons_zero] at h0
      rw [List.dropWhile_cons, if_pos h0, List.drop_succ_cons]
      refine ih f (by simp at hf; omega) (fun j hj => ?_) (fun hj => ?_)
      · have := h1 (j + 1) (by omega); rwa [List.getD_cons_succ] at this
      · have := h2 (by simp; omega); rwa [List.getD_cons_succ] at this
theorem getD_reverse (l : List UInt8) (j : Nat) (h : j < l.length) : l.reverse.getD j 0 = l.getD (l.length - 1 - j) 0 := by
  rw [List.getD, List.getElem?_reverse h, List.getD]
theorem trim_sub (l : List UInt8) (f e : Nat) (h : Trims l f e) : trimB l = sub l f e := by
  unfold trimB sub
  rcases h with ⟨rfl, rfl, h⟩ | ⟨h1, h2, h3, h4, h5, h6⟩
  · rw [dropWhile_drop l l.length (Nat.le_refl _) (fun j hj => by rw [blank_same]; exact h j hj) (fun hh => absurd hh (by omega))]
    simp
  · rw [dropWhile_drop l f (by omega) (fun j hj => by rw [blank_same]; exact h3 j hj) (fun _ => by rw [blank_same]; exact h4)]
    have hlen : (l.drop f).length = l.length - f := List.length_drop
    rw [dropWhile_drop (l.drop f).reverse (l.length - e) (by rw [List.length_reverse]; omega) (fun j hj => ?_) (fun hj => ?_)]
    · rw [List.drop_reverse, List.reverse_reverse, hlen]
      congr 1; omega
    · rw [getD_reverse _ _ (by omega), hlen, List.getD, List.getElem?_drop, ← List.getD, blank_same]
      exact h6 _ (by omega) (by omega)
    · rw [List.length_reverse, hlen] at hj
      rw [getD_reverse _ _ (by omega), hlen, List.getD, List.getElem?_drop, ← List.getD, blank_same]
      rw [show f + (l.length - f - 1 - (l.length - e)) = e - 1 by omega]
      exact h5
theorem ok_mem (c : UInt8) (l : List UInt8) : atOk c l = decide (c ∈ l) := by
  obtain ⟨_, h2, _⟩ := at_ahead c l
  by_cases h : c ∈ l
  · obtain ⟨x, y, rfl, hx⟩ := List.eq_append_cons_of_mem h
    rw [(ahead_yes c x y hx).2] at h2
    cases hk : atOk c (x ++ c :: y) with
    | true => simp
    | false => rw [hk] at h2; simp at h2
  · rw [(ahead_no c l h).2] at h2
    cases hk : atOk c l with
    | false => simp [h]
    | true => rw [hk] at h2; simp at h2
/-- A row of bytes in one block, each of which may be written. -/
def RowC (W : World) (v : Value) (l : List UInt8) : Prop :=
  ∃ g c, v = .slice (some ⟨g, 0, none⟩) l.length c ∧ l.length ≤ c ∧ c ≤ maxLen ∧ g < W.heap.size ∧ ∀ j, j < l.length → W.cell? ⟨g, j, none⟩ = some (.int .u8 ((l.getD j 0).toNat : Int)) ∧ W.frozen? ⟨g, j, none⟩ = false
theorem RowC.by {W : World} {v : Value} {l : List UInt8} (h : RowC W v l) : By W v l := by
  obtain ⟨g, c, rfl, h1, h2, _, h4⟩ := h
  refine By.of rfl h1 h2 (fun h => by cases h) fun _ => ⟨g, 0, rfl, fun i hi => ?_⟩
  rw [numsL_getD _ i hi, Nat.zero_add]
  exact (h4 i hi).1
/-! ### fields as rows of strings -/
end Go.Proofs.YtdbpbfbjebjbeaaDoor.Hdr

namespace Go.Proofs.YtdbpbfbjebjbeaaDoor.Url
open Go.RowKit Go.Shelf

theorem run_append_by (ty : TypeId) (base : Nat) (v : Value) (n : Nat) (xs : List Value) (w : World) (hown : w.ownsRow base 5 1 v n xs) (vx : Value) (bs : List UInt8) (hb : By w vx bs) (h47 : n + bs.length ≤ 140737488355328) (hbase : base ≤ w.heap.size) :
    ∃ v' w', (Builtin.append_ #[22, 22] ty #[v, vx]).run Tryd.prog w = .ok v' w' ∧ w'.ownsRow base 5 1 v' (n + bs.length) (xs ++ byV bs) ∧ w.grownBy w' v.ownBlock := by
  obtain ⟨i0, hi0, hz0, hz1, hz2⟩ := info_parts info_u8
  obtain ⟨q, c, rfl, h1, h2, h3, h4⟩ := hb
  cases q with
  | none =>
    have hc : c = 0 := h3 rfl
    subst hc
    obtain rfl : bs = [] := List.eq_nil_of_length_eq_zero (by omega)
    exact ⟨v, w, run_append_owned_none (P := Tryd.prog) (w := w) base 22 ty 5 i0 1 Tryd.underlying22 hi0 v n xs hown, by simpa [byV, Lib.numsL] using hown, ⟨rfl, rfl, rfl, Nat.le_refl _, fun _ _ _ => rfl⟩⟩
  | some ad =>
    have hlen : (byV bs).length = bs.length * 1 := by simp [byV, Lib.numsL]
    obtain ⟨v', w', hr, h5, h6, _, _⟩ := run_append_own_at (P := Tryd.prog) w base 22 ty 5 i0 (.int .u8 0) 1 1 Tryd.underlying22 hi0 hz0 hz1 hz2 rfl (by decide) v n xs hown ad bs.length c (byV bs) hlen (fun j u hj => by
      rcases Nat.lt_or_ge j bs.length with h' | h'
      · obtain ⟨b, o, he, hcc⟩ := h4.at (by omega)
        cases he
        have hj' : j < (Lib.numsL bs).length := by rw [Lib.numsL_length]; omega
        unfold byV at hj
        rw [Go.WideShapes.add_plain, hcc j h']
        rw [List.getElem?_map, List.getElem?_eq_getElem hj'] at hj
        simp only [Option.map_some, Option.some.injEq] at hj
        rw [← hj, List.getD, List.getElem?_eq_getElem hj']
        rfl
      · rw [List.getElem?_eq_none (by omega)] at hj
        cases hj) (by simp [byV, Lib.numsL, Value.oneCell']) (by unfold maxLen; omega) (by omega) hbase
    exact ⟨v', w', hr, h5, h6⟩
theorem wp_append_by {o : Oper} {a : Act} {w : World} {K : Act → World → Prop} {Q : Exit → Act → World → Prop} (s x : Operand)
    (ho : o.op = .call { callee := .builtin .append, args := #[s, x], argTypes := #[22, 22] })
    (base : Nat) (v : Value) (n : Nat) (xs : List Value) (hs : a.eval s = v) (hown : w.ownsRow base 5 1 v n xs) (vx : Value) (bs : List UInt8) (hx : a.eval x = vx) (hb : By w vx bs) (h47 : n + bs.length ≤ 140737488355328) (hbase : base ≤ w.heap.size)
    (h : ∀ v' w', w'.ownsRow base 5 1 v' (n + bs.length) (xs ++ byV bs) → w.grownBy w' v.ownBlock → K (a.put o.dst v') w') : o.wp Tryd.prog a w K Q := by
  obtain ⟨v', w', hr, h1, h2⟩ := run_append_by o.type base v n xs w hown vx bs hb h47 hbase
  exact Lib.wp_append_run (P := Tryd.prog) w s x 22 22 ho v vx hs hx v' w' hr (h v' w' h1 h2)
theorem wpList_append_by {ops : Array Oper} {rest : List Oper} {o : Oper} {a : Act} {w : World} {Q : Exit → Act → World → Prop} (hgd : o.guard = none) (s x : Operand)
    (ho : o.op = .call { callee := .builtin .append, args := #[s, x], argTypes := #[22, 22] })
    (base : Nat) (v : Value) (n : Nat) (xs : List Value) (hs : a.eval s = v) (hown : w.ownsRow base 5 1 v n xs) (vx : Value) (bs : List UInt8) (hx : a.eval x = vx) (hb : By w vx bs) (h47 : n + bs.length ≤ 140737488355328) (hbase : base ≤ w.heap.size)
    (h : ∀ v' w', w'.ownsRow base 5 1 v' (n + bs.length) (xs ++ byV bs) → w.grownBy w' v.ownBlock → wpList Tryd.prog ops Q rest (a.put o.dst v') w') : wpList Tryd.prog ops Q (o :: rest) a w := by
  obtain ⟨v', w', hr, h1, h2⟩ := run_append_by o.type base v n xs w hown vx bs hb h47 hbase
  exact Lib.wpList_append_run (P := Tryd.prog) w hgd s x 22 22 ho v vx hs hx v' w' hr (h v' w' h1 h2)

/-- A new row of literal bytes. -/
theorem by_lit (w : World) (cs : Array Value) (l : List UInt8) (fr : Nat × Nat) (n : Nat) (h : cs.toList = byV l) (hn : l.length = n) (hm : n ≤ maxLen) : By (w.alloc (.cells cs 5 fr)) (.slice (some ⟨w.heap.size, 0, none⟩) n n) l :=
  By.of hn (Nat.le_refl _) hm (fun h => by cases h) (by rw [← hn]; exact bytes_lit cs l fr h)
/-- What a row leaves that has grown, seen from below it. -/
theorem grown_below {base n : Nat} {v : Value} {xs : List Value} {w w' : World} (hown : w.ownsRow base 5 1 v n xs) (hg : w.grownBy w' v.ownBlock) (hb : base ≤ w.heap.size) : Below base w w' :=
  (Below.refl _ _).grown hg hb (fun b h => (hown.lt b h).1)
/-- The cells of a box of several. -/
theorem box_cell (w : World) (cs : Array Value) (t : TypeId) (i : Nat) (x : Value) (h : cs[i]? = some x) : (w.alloc (.cells cs t)).cell? ⟨w.heap.size, i, none⟩ = some x := by
  have hn : (w.alloc (.cells cs t)).heap[w.heap.size]? = some (.cells cs t) := World.alloc_heap_new w _
  simp only [World.cell?, hn]
  exact h
theorem cell_on {w w' : World} {a : Addr} {x : Value} (h : w.cell? a = some x) (hk : Below w.heap.size w w') : w'.cell? a = some x := (World.cell?_of_block (hk.block _ (World.block_lt_of_cell? w _ h))).trans h
theorem cell_below {B : Nat} {w w' : World} {a : Addr} {x : Value} (h : w.cell? a = some x) (hk : Below B w w') (hB : a.block < B) : w'.cell? a = some x := (World.cell?_of_block (hk.block _ hB)).trans h

end Go.Proofs.YtdbpbfbjebjbeaaDoor.Url

namespace Go.Proofs.YtdbpbfbjebjbeaaDoor.Url
open Go.RowKit Go.Shelf
attribute [local go_sem] Oper.semAt_some

/-- The value v is the URL u. -/
def UrlIn (w : World) (v : Value) (u : U) : Prop := ∃ q0 n0 c0 q1 n1 c1 q3 n3 c3 q4 n4 c4 q5 n5 c5,
  v = .agg #[.slice q0 n0 c0, .slice q1 n1 c1, .int .i64 u.port, .slice q3 n3 c3, .slice q4 n4 c4, .slice q5 n5 c5, .bool u.hq, .bool u.hf] ∧
  By w (.slice q0 n0 c0) u.scheme ∧ By w (.slice q1 n1 c1) u.host ∧ By w (.slice q3 n3 c3) u.path ∧ By w (.slice q4 n4 c4) u.query ∧ By w (.slice q5 n5 c5) u.frag
theorem UrlIn.on {w w' : World} {v : Value} {u : U} (h : UrlIn w v u) (hk : Below w.heap.size w w') : UrlIn w' v u := by
  obtain ⟨q0, n0, c0, q1, n1, c1, q3, n3, c3, q4, n4, c4, q5, n5, c5, hv, h0, h1, h3, h4, h5⟩ := h
  exact ⟨q0, n0, c0, q1, n1, c1, q3, n3, c3, q4, n4, c4, q5, n5, c5, hv, h0.on hk, h1.on hk, h3.on hk, h4.on hk, h5.on hk⟩
/-- Scheme, host and port. -/
def serverT (u : U) : List UInt8 := u.scheme ++ sepS ++ u.host ++ portT u
theorem text_server (u : U) : textU u = serverT u ++ u.path ++ queryT u ++ fragT u := rfl
theorem low_scheme (u : U) (h : Ok u) : Ref.lowL u.scheme = u.scheme := by
  rcases h.scheme with hs | hs <;> (rw [hs]; decide)
theorem dig_dec10 (n : Nat) : digL n = Lib.decDigits n := by
  induction n using Nat.strongRecOn with
  | ind n ih =>
    by_cases h : n < 10
    · rw [dig_small n h, Lib.decDigits, dif_pos h]
    · rw [dig_big n h, Lib.decDigits, dif_neg h, ih (n / 10) (by omega)]
theorem itoa_dig (n : Nat) : Lib.byteCells (Lib.itoa (n : Int)) = byV (digL n) ∧ (Lib.itoa (n : Int)).length = (digL n).length := by
  rw [Lib.itoa_nonneg, dig_dec10]
  refine ⟨?_, rfl⟩
  unfold Lib.byteCells byV Lib.numsL
  rw [List.map_map]; rfl
theorem AppendInt_any (B n p : Nat) (v : Value) (xs : List Value) (w : World) (hown : w.ownsRow B 5 1 v n xs) (hp : p ≤ 65535) (hB : B ≤ w.heap.size) (hn : n ≤ 1048577) (ht : Lib.TabBelow Tryd.prog B w "internal/strconv.uint64pow10" .u64 Lib.pow10Tab) :
    Calls Tryd.prog 15 #[v, .int .i64 (p : Int), .int .i64 10] w fun e w' => ∃ v', e = .returned v' ∧ w'.ownsRow B 5 1 v' (n + (digL p).length) (xs ++ byV (digL p)) ∧ Below B w w' := by
  refine (Tryd.strconv_AppendInt_10 B n p (by omega) (by omega) v xs w hown hB (by omega) ht).mono ?_
  rintro e w' ⟨v', he, hr, hb, _⟩
  rw [(itoa_dig p).1, (itoa_dig p).2] at hr
  exact ⟨v', he, hr, hb⟩

set_option maxRecDepth 100000 in
set_option maxHeartbeats 8000000 in
theorem server_any (u : U) (v : Value) (w : World) (h : UrlIn w v u) (hok : Ok u) (hG : Gl w) (hlen : (textU u).length ≤ 1048576) :
    Calls Tryd.prog 38 #[v] w fun e w' => ∃ v', e = .returned v' ∧ w'.ownsRow w.heap.size 5 1 v' (serverT u).length (byV (serverT u)) ∧ Below w.heap.size w w' := by
  have kc := fun (w : World) (C : Array Value) (n c : Nat) => Lib.run_convert_bytes_const (P := Tryd.prog) w 22 5 C n c Tryd.underlying22 Tryd.underlying5
  obtain ⟨q0, n0, c0, q1, n1, c1, q3, n3, c3, q4, n4, c4, q5, n5, c5, rfl, h0, h1, h3, h4, h5⟩ := h
  have hp2 := hok.port2
  have HLS := Lib.hid (low_scheme u hok)
  have hsl : (u.scheme ++ sepS ++ u.host).length ≤ 1048576 := by
    have : (textU u).length = (u.scheme ++ sepS ++ u.host).length + (portT u ++ u.path ++ queryT u ++ fragT u).length := by rw [← List.length_append]; rw [text_server]; unfold serverT; simp only [List.append_assoc]
    omega
  have HPT := Lib.hid (show portT u = if u.port = ownP u.scheme then [] else 58 :: digL u.port from rfl)
  have HST := Lib.hid (show serverT u = (u.scheme ++ sepS ++ u.host) ++ portT u from rfl)
  clear hok hlen
  -- the box, "://", the three parts
  obtain ⟨W1, hW1⟩ : ∃ W1, (w.alloc (.cells #[.slice q0 n0 c0, .slice q1 n1 c1, .int .i64 u.port, .slice q3 n3 c3, .slice q4 n4 c4, .slice q5 n5 c5, .bool u.hq, .bool u.hf] 31)).alloc (.cells #[.int .u8 58, .int .u8 47, .int .u8 47] 5 (3, 4)) = W1 := ⟨_, rfl⟩
  have hs1 : W1.heap.size = w.heap.size + 2 := by rw [← hW1]; simp
  have hB0 := (Below.refl _ w).alloc (Nat.le_refl _) (.cells #[.slice q0 n0 c0, .slice q1 n1 c1, .int .i64 u.port, .slice q3 n3 c3, .slice q4 n4 c4, .slice q5 n5 c5, .bool u.hq, .bool u.hf] 31)
  have hB1 : Below w.heap.size w W1 := by rw [← hW1]; exact hB0.alloc hB0.size _
  have hbox : ∀ i x, (#[.slice q0 n0 c0, .slice q1 n1 c1, .int .i64 u.port, .slice q3 n3 c3, .slice q4 n4 c4, .slice q5 n5 c5, .bool u.hq, .bool u.hf] : Array Value)[i]? = some x → W1.cell? ⟨w.heap.size, i, none⟩ = some x := fun i x h => by
    rw [← hW1]; exact cell_on (box_cell w _ 31 i x h) ((Below.refl _ _).alloc (Nat.le_refl _) _)
  have hsep : By W1 (.slice (some ⟨w.heap.size + 1, 0, none⟩) 3 3) sepS := by
    have := by_lit (w.alloc (.cells #[.slice q0 n0 c0, .slice q1 n1 c1, .int .i64 u.port, .slice q3 n3 c3, .slice q4 n4 c4, .slice q5 n5 c5, .bool u.hq, .bool u.hf] 31)) #[.int .u8 58, .int .u8 47, .int .u8 47] sepS (3, 4) 3 rfl rfl (by decide)
    rw [World.size_alloc] at this
    rw [← hW1]; exact this
  have kc1 := kc (w.alloc (.cells #[.slice q0 n0 c0, .slice q1 n1 c1, .int .i64 u.port, .slice q3 n3 c3, .slice q4 n4 c4, .slice q5 n5 c5, .bool u.hq, .bool u.hf] 31)) #[.int .u8 58, .int .u8 47, .int .u8 47] 3 3
  rw [World.size_alloc] at kc1
  have g0 := h0.on hB1
  have g1 := h1.on hB1
  obtain ⟨W2, hW2⟩ : ∃ W2, W1.alloc (.cells #[.slice q0 n0 c0, .slice (some ⟨w.heap.size + 1, 0, none⟩) 3 3, .slice q1 n1 c1] 22) = W2 := ⟨_, rfl⟩
  have hB12 : Below W1.heap.size W1 W2 := by rw [← hW2]; exact (Below.refl _ _).alloc (Nat.le_refl _) _
  have hB2 := hB1.trans (hB12.mono hB1.size)
  have hs2 : W2.heap.size = w.heap.size + 3 := by rw [← hW2, World.size_alloc, hs1]
  have hcl : ∀ i x, (#[.slice q0 n0 c0, .slice (some ⟨w.heap.size + 1, 0, none⟩) 3 3, .slice q1 n1 c1] : Array Value)[i]? = some x → W2.cell? ⟨w.heap.size + 1 + 1, i, none⟩ = some x := fun i x h => by
    have := box_cell W1 _ 22 i x h
    rw [hs1] at this
    rw [← hW2]; exact this
  have con := Concat_any (w.heap.size + 1 + 1) 3 3 [u.scheme, sepS, u.host] W2 rfl (by omega) (fun i hi => by
    match i, hi with
    | 0, _ => exact ⟨_, _, _, hcl 0 _ rfl, g0.on hB12⟩
    | 1, _ => exact ⟨_, _, _, hcl 1 _ rfl, hsep.on hB12⟩
    | 2, _ => exact ⟨_, _, _, hcl 2 _ rfl, g1.on hB12⟩) (by simp only [List.flatten_cons, List.flatten_nil, List.append_nil, ← List.append_assoc]; omega) (by simp [sepS]; omega)
  simp only [List.flatten_cons, List.flatten_nil, List.append_nil, ← List.append_assoc] at con
  have HW1 := Lib.hid hW1
  have HW2 := Lib.hid hW2
  clear hW1 hW2 hB0 hcl hsep h0 h1 h3 h4 h5 g1
  go_enter Tryd.func38, Tryd.ntmps38
  go_wp2_with fail
  rw [HW1.out, HW2.out]
  refine con.mono ?_
  rintro e W3 ⟨v3, rfl, hrow, hb3⟩
  have hB3 := hB2.trans (hb3.mono hB2.size)
  have hB13 := hB12.trans (hb3.mono hB12.size)
  have hrow' := row_base hrow (show w.heap.size + 1 ≤ W2.heap.size by omega)
  have hb := fun i x h => cell_on (hbox i x h) hB13
  have g0' := g0.on hB13
  have conO := fun X (hX : Below W3.heap.size W3 X) => Own_any q0 n0 c0 u.scheme X g0'.at.1 (by have := hsl; rw [List.length_append, List.length_append, g0'.at.1] at this; omega) (g0'.on hX).at.2.2.2.2
  rw [HLS.out] at conO
  clear con kc1 hrow hbox g0 hb3 hB12 hB13 hB2 hB1 HW1 HW2
  obtain ⟨n, hn⟩ : ∃ n, (u.scheme ++ sepS ++ u.host).length = n := ⟨_, rfl⟩
  rw [hn] at hrow' hsl
  obtain ⟨qr, cr, rfl, _, _, _, _, _⟩ := row_open hrow'
  have HLN := Lib.hid hn
  have c0' := hb 0 _ rfl
  have c2' := hb 2 _ rfl
  clear hn hb hs1 hs2
  generalize ownP u.scheme = own at *
  go_wp2_with fail
  refine pregion_any (fun X => X.cell? ⟨w.heap.size, 0, none⟩ = some (.slice q0 n0 c0) ∧ X.cell? ⟨w.heap.size, 2, none⟩ = some (.int .i64 u.port)) (by kernel_rfl) ?_
  have hS0 : W3.drew.cell? ⟨w.heap.size, 0, none⟩ = some (.slice q0 n0 c0) ∧ W3.drew.cell? ⟨w.heap.size, 2, none⟩ = some (.int .i64 u.port) := ⟨c0', c2'⟩
  have hBd : Below W3.heap.size W3 W3.drew := (Below.refl _ _).drew
  have conO' := conO _ hBd
  have hrd : W3.drew.ownsRow (w.heap.size + 1) 5 1 (.slice qr n cr) n (byV (u.scheme ++ sepS ++ u.host)) := hrow'
  have hB3d : Below w.heap.size w W3.drew := hB3.drew
  clear c0' c2' conO hrow' hB3 hBd g0'
  generalize W3.drew = X at *
  refine wpAnyH_take (i := 0) (v := (.pointer (some ⟨w.heap.size, 2, none⟩))) rfl (by kernel_rfl) (by kernel_rfl) (by kernel_rfl) (fun _ _ _ h => h) (.inl ⟨by kernel_rfl, ?_⟩) hS0 ?_
  · rintro w ⟨h1, h2⟩; go_simp
  refine plist #[true, false, false, false, false, false] (by kernel_rfl) ?_
  refine wpAnyH_take (i := 1) (v := (.int .i64 u.port)) rfl (by kernel_rfl) (by kernel_rfl) (by kernel_rfl) (fun _ _ _ h => h) (.inl ⟨by kernel_rfl, ?_⟩) hS0 ?_
  · rintro w ⟨h1, h2⟩; go_simp
  refine plist #[true, true, false, false, false, false] (by kernel_rfl) ?_
  refine wpAnyH_take (i := 2) (v := (.pointer (some ⟨w.heap.size, 0, none⟩))) rfl (by kernel_rfl) (by kernel_rfl) (by kernel_rfl) (fun _ _ _ h => h) (.inl ⟨by kernel_rfl, ?_⟩) hS0 ?_
  · rintro w ⟨h1, h2⟩; go_simp
  refine plist #[true, true, true, false, false, false] (by kernel_rfl) ?_
  refine wpAnyH_take (i := 3) (v := (.slice q0 n0 c0)) rfl (by kernel_rfl) (by kernel_rfl) (by kernel_rfl) (fun _ _ _ h => h) (.inl ⟨by kernel_rfl, ?_⟩) hS0 ?_
  · rintro w ⟨h1, h2⟩; go_simp
  refine plist #[true, true, true, true, false, false] (by kernel_rfl) ?_
  refine pone 4 (by kernel_rfl) rfl fun K hK => ?_
  go_simp
  refine conO'.mono ?_
  rintro e X4 ⟨rfl, hb4⟩
  have hS4 := And.intro (cell_on hS0.1 hb4) (cell_on hS0.2 hb4)
  have hB4 := hB3d.trans (hb4.mono hB3d.size)
  have hr4 := (Keep.of_below hb4).row hrd (fun k hk => (hrd.lt k hk).2)
  refine hK _ _ hS4 ?_
  clear hK K conO' hS0 hB3d hrd
  refine plist #[true, true, true, true, true, false] (by kernel_rfl) ?_
  by_cases hpo : u.port = own
  · have e5 : ((u.port : Int) == (own : Int)) = true := by rw [beq_iff_eq]; omega
    have H := Lib.hid (show serverT u = u.scheme ++ sepS ++ u.host by rw [HST.out, HPT.out, if_pos hpo, List.append_nil])
    refine wpAnyH_take (i := 5) (v := (.bool true)) rfl (by kernel_rfl) (by kernel_rfl) (by kernel_rfl) (fun _ _ _ h => h) (.inl ⟨by kernel_rfl, ?_⟩) hS4 ?_
    · rintro w ⟨h1, h2⟩; go_simp
    refine pdone (by kernel_rfl) ?_ _
    go_wp2
    go_ret
    refine ⟨_, rfl, ?_, hB4⟩
    rw [H.out, HLN.out]; exact row_base hr4 (Nat.le_succ _)
  · have e5 : ((u.port : Int) == (own : Int)) = false := by rw [beq_eq_false_iff_ne]; omega
    have H := Lib.hid (show serverT u = (u.scheme ++ sepS ++ u.host ++ [58]) ++ digL u.port by rw [HST.out, HPT.out, if_neg hpo]; simp)
    refine wpAnyH_take (i := 5) (v := (.bool false)) rfl (by kernel_rfl) (by kernel_rfl) (by kernel_rfl) (fun _ _ _ h => h) (.inl ⟨by kernel_rfl, ?_⟩) hS4 ?_
    · rintro w ⟨h1, h2⟩; go_simp
    refine pdone (by kernel_rfl) ?_ _
    clear e5
    go_wp2_with fail
    refine pregion_any (fun X => X.cell? ⟨w.heap.size, 2, none⟩ = some (.int .i64 u.port)) (by kernel_rfl) ?_
    have hS5 : X4.drew.cell? ⟨w.heap.size, 2, none⟩ = some (.int .i64 u.port) := hS4.2
    have hr5 : X4.drew.ownsRow (w.heap.size + 1) 5 1 (.slice qr n cr) n (byV (u.scheme ++ sepS ++ u.host)) := hr4
    have hB5 : Below w.heap.size w X4.drew := hB4.drew
    have hgt : w.heap.size + 1 ≤ X4.drew.heap.size := World.block_lt_of_cell? _ _ hS5
    clear hS4 hr4 hB4
    generalize X4.drew = Y at *
    refine wpAnyH_take (i := 0) (v := (.slice qr n cr)) rfl (by kernel_rfl) (by kernel_rfl) (by kernel_rfl) (fun _ _ _ h => h) (.inl ⟨by kernel_rfl, ?_⟩) hS5 ?_
    · rintro w h1; go_simp
    refine plist #[true, false, false, false, false, false, false] (by kernel_rfl) ?_
    refine wpAnyH_take (i := 3) (v := (.pointer (some ⟨w.heap.size, 2, none⟩))) rfl (by kernel_rfl) (by kernel_rfl) (by kernel_rfl) (fun _ _ _ h => h) (.inl ⟨by kernel_rfl, ?_⟩) hS5 ?_
    · rintro w h1; go_simp
    refine plist #[true, false, false, true, false, false, false] (by kernel_rfl) ?_
    refine wpAnyH_take (i := 4) (v := (.int .i64 u.port)) rfl (by kernel_rfl) (by kernel_rfl) (by kernel_rfl) (fun _ _ _ h => h) (.inl ⟨by kernel_rfl, ?_⟩) hS5 ?_
    · rintro w h1; go_simp
    refine plist #[true, false, false, true, true, false, false] (by kernel_rfl) ?_
    refine pone 1 (by kernel_rfl) rfl fun K hK => ?_
    go_simp
    have hbl := (Below.refl Y.heap.size Y).alloc (Nat.le_refl _) (.cells #[.int .u8 58] 5)
    have hS6 := cell_on hS5 hbl
    refine hK _ _ hS6 ?_
    clear hK K
    refine plist #[true, true, false, true, true, false, false] (by kernel_rfl) ?_
    refine pone 2 (by kernel_rfl) rfl fun K hK => ?_
    rw [if_pos (by rfl)]
    have hsY := hB5.size
    refine wp_append_by (Operand.tmp 19) (Operand.tmp 20) rfl (w.heap.size + 1) (.slice qr n cr) n _ rfl (hr5.alloc _) _ [58] rfl (by_lit Y #[.int .u8 58] [58] (0, 0) 1 rfl rfl (by decide)) (by simp; omega) (by simp; omega) ?_
    intro v7 Z hr7 hg7
    have hb7 : Below (w.heap.size + 1) Y Z := (hbl.mono hgt).trans (grown_below (hr5.alloc _) hg7 (by simp; omega))
    have hB7 := hB5.trans (hb7.mono (Nat.le_succ _))
    have hS7 : Z.cell? ⟨w.heap.size, 2, none⟩ = some (.int .i64 u.port) := cell_below hS5 hb7 (Nat.lt_succ_self _)
    refine hK _ _ hS7 ?_
    clear hK K
    refine plist #[true, true, true, true, true, false, false] (by kernel_rfl) ?_
    refine pone 5 (by kernel_rfl) rfl fun K hK => ?_
    go_simp
    refine (AppendInt_any (w.heap.size + 1) (n + 1) u.port v7 _ Z hr7 hp2 (Nat.le_trans hgt hb7.size) (by omega) (Gl.tab hG hB7 (Nat.le_succ _))).mono ?_
    rintro e V ⟨v8, rfl, hr8, hb8⟩
    have hS8 := cell_below hS7 hb8 (Nat.lt_succ_self _)
    refine hK _ _ hS8 ?_
    clear hK K
    refine plist #[true, true, true, true, true, true, false] (by kernel_rfl) ?_
    refine pone 6 (by kernel_rfl) rfl fun K hK => ?_
    go_simp
    refine hK _ _ hS8 ?_
    clear hK K
    refine pdone (by kernel_rfl) ?_ _
    go_wp2
    go_ret
    refine ⟨_, rfl, ?_, hB7.trans (hb8.mono (Nat.le_succ _))⟩
    rw [H.out, List.length_append, List.length_append, HLN.out, byV_app, byV_app]
    exact row_base hr8 (Nat.le_succ _)

end Go.Proofs.YtdbpbfbjebjbeaaDoor.Url

namespace Go.Proofs.YtdbpbfbjebjbeaaDoor.Url
open Go.RowKit Go.Shelf
attribute [local go_sem] Oper.semAt_some

/-- The cells of block B. -/
def Box (B : Nat) (cs : Array Value) (X : World) : Prop := ∀ i x, cs[i]? = some x → X.cell? ⟨B, i, none⟩ = some x
theorem Box.on {B : Nat} {cs : Array Value} {X Y : World} (h : Box B cs X) (hk : Below X.heap.size X Y) : Box B cs Y := fun i x hx => cell_on (h i x hx) hk
theorem Box.below {B M : Nat} {cs : Array Value} {X Y : World} (h : Box B cs X) (hk : Below M X Y) (hB : B < M) : Box B cs Y := fun i x hx => cell_below (h i x hx) hk hB
theorem Box.new (w : World) (cs : Array Value) (t : TypeId) : Box w.heap.size cs (w.alloc (.cells cs t)) := fun i x h => box_cell w cs t i x h
set_option maxRecDepth 100000 in
set_option maxHeartbeats 8000000 in
theorem Text_any (u : U) (v : Value) (w : World) (h : UrlIn w v u) (hok : Ok u) (hG : Gl w) (hlen : (textU u).length ≤ 1048576) :
    Calls Tryd.prog 17 #[v] w fun e w' => ∃ v', e = .returned v' ∧ w'.ownsRow w.heap.size 5 1 v' (textU u).length (byV (textU u)) ∧ Below w.heap.size w w' := by
  obtain ⟨q0, n0, c0, q1, n1, c1, q3, n3, c3, q4, n4, c4, q5, n5, c5, rfl, h0, h1, h3, h4, h5⟩ := h
  have hT := text_server u
  have hql : (queryT u).length = if u.hq then u.query.length + 1 else 0 := by unfold queryT; split <;> simp
  have hfl : (fragT u).length = if u.hf then u.frag.length + 1 else 0 := by unfold fragT; split <;> simp
  have hlt : (serverT u).length + u.path.length + (queryT u).length + (fragT u).length ≤ 1048576 := by rw [hT] at hlen; simp only [List.length_append] at hlen; omega
  have HQ := Lib.hid (show queryT u = if u.hq then 63 :: u.query else [] from rfl)
  have HF := Lib.hid (show fragT u = if u.hf then 35 :: u.frag else [] from rfl)
  have HT := Lib.hid hT
  clear hT
  obtain ⟨W1, hW1⟩ : ∃ W1, w.alloc (.cells #[.slice q0 n0 c0, .slice q1 n1 c1, .int .i64 u.port, .slice q3 n3 c3, .slice q4 n4 c4, .slice q5 n5 c5, .bool u.hq, .bool u.hf] 31) = W1 := ⟨_, rfl⟩
  have hs1 : W1.heap.size = w.heap.size + 1 := by rw [← hW1]; simp
  have hB1 : Below w.heap.size w W1 := by rw [← hW1]; exact (Below.refl _ w).alloc (Nat.le_refl _) _
  have hbox : Box w.heap.size #[.slice q0 n0 c0, .slice q1 n1 c1, .int .i64 u.port, .slice q3 n3 c3, .slice q4 n4 c4, .slice q5 n5 c5, .bool u.hq, .bool u.hf] W1 := by rw [← hW1]; exact Box.new w _ _
  have hin : UrlIn W1 (.agg #[.slice q0 n0 c0, .slice q1 n1 c1, .int .i64 u.port, .slice q3 n3 c3, .slice q4 n4 c4, .slice q5 n5 c5, .bool u.hq, .bool u.hf]) u := UrlIn.on ⟨q0, n0, c0, q1, n1, c1, q3, n3, c3, q4, n4, c4, q5, n5, c5, rfl, h0, h1, h3, h4, h5⟩ hB1
  have con := fun X (hX : Below W1.heap.size W1 X) => server_any u _ X (hin.on hX) hok ((hG.on hB1).on hX) hlen
  have HW1 := Lib.hid hW1
  clear hW1 hin hok hG hlen
  generalize u.hq = bq at *
  generalize u.hf = bf at *
  go_enter Tryd.func17, Tryd.ntmps17
  go_wp2_with fail
  rw [HW1.out]
  refine pregion_any (Box w.heap.size #[.slice q0 n0 c0, .slice q1 n1 c1, .int .i64 u.port, .slice q3 n3 c3, .slice q4 n4 c4, .slice q5 n5 c5, .bool bq, .bool bf]) (by kernel_rfl) ?_
  have hS0 : Box w.heap.size #[.slice q0 n0 c0, .slice q1 n1 c1, .int .i64 u.port, .slice q3 n3 c3, .slice q4 n4 c4, .slice q5 n5 c5, .bool bq, .bool bf] W1.drew := hbox
  have con' := con _ ((Below.refl _ _).drew)
  have hBd : Below w.heap.size w W1.drew := hB1.drew
  have hsd : W1.drew.heap.size = w.heap.size + 1 := hs1
  clear con hbox HW1 hB1 hs1
  generalize W1.drew = X at *
  refine wpAnyH_take (i := 0) (v := (.agg #[.slice q0 n0 c0, .slice q1 n1 c1, .int .i64 u.port, .slice q3 n3 c3, .slice q4 n4 c4, .slice q5 n5 c5, .bool bq, .bool bf])) rfl (by kernel_rfl) (by kernel_rfl) (by kernel_rfl) (fun _ _ _ h => h) (.inl ⟨by kernel_rfl, ?_⟩) hS0 ?_
  · rintro w h; have e0 := h 0 _ rfl; have e1 := h 1 _ rfl; have e2 := h 2 _ rfl; have e3 := h 3 _ rfl; have e4 := h 4 _ rfl; have e5 := h 5 _ rfl; have e6 := h 6 _ rfl; have e7 := h 7 _ rfl; go_simp
  refine plist #[true, false, false, false, false, false] (by kernel_rfl) ?_
  refine wpAnyH_take (i := 2) (v := (.pointer (some ⟨w.heap.size, 3, none⟩))) rfl (by kernel_rfl) (by kernel_rfl) (by kernel_rfl) (fun _ _ _ h => h) (.inl ⟨by kernel_rfl, ?_⟩) hS0 ?_
  · rintro w h; go_simp
  refine plist #[true, false, true, false, false, false] (by kernel_rfl) ?_
  refine wpAnyH_take (i := 3) (v := (.slice q3 n3 c3)) rfl (by kernel_rfl) (by kernel_rfl) (by kernel_rfl) (fun _ _ _ h => h) (.inl ⟨by kernel_rfl, ?_⟩) hS0 ?_
  · rintro w h; have h' := h 3 _ rfl; go_simp
  refine plist #[true, false, true, true, false, false] (by kernel_rfl) ?_
  refine pone 1 (by kernel_rfl) rfl fun K hK => ?_
  go_simp
  refine con'.mono ?_
  rintro e X1 ⟨v1, rfl, hr1, hb1⟩
  rw [hsd] at hr1 hb1
  have hS1 := Box.below hS0 hb1 (Nat.lt_succ_self _)
  have hB1 := hBd.trans (hb1.mono (Nat.le_succ _))
  have hgt1 : w.heap.size + 1 ≤ X1.heap.size := by have := hb1.size; omega
  refine hK _ _ hS1 ?_
  clear hK K con' hS0 hBd
  refine plist #[true, true, true, true, false, false] (by kernel_rfl) ?_
  refine pone 4 (by kernel_rfl) rfl fun K hK => ?_
  rw [if_pos (by rfl)]
  refine wp_append_by (Operand.tmp 5) (Operand.tmp 7) rfl (w.heap.size + 1) v1 _ _ rfl hr1 _ u.path rfl (h3.on hB1) (by omega) hgt1 ?_
  intro v2 Y hr hg2
  have hb2 := grown_below hr1 hg2 hgt1
  have hS := Box.below hS1 hb2 (Nat.lt_succ_self _)
  have hB := hB1.trans (hb2.mono (Nat.le_succ _))
  have hgt : w.heap.size + 1 ≤ Y.heap.size := Nat.le_trans hgt1 hb2.size
  refine hK _ _ hS ?_
  clear hK K hb1 hr1 hS1 hB1 hgt1 hg2 hb2
  refine plist #[true, true, true, true, true, false] (by kernel_rfl) ?_
  refine pone 5 (by kernel_rfl) rfl fun K hK => ?_
  go_simp
  refine hK _ _ hS ?_
  clear hK K
  refine pdone (by kernel_rfl) ?_ _
  rw [← byV_app] at hr
  have HLA := Lib.hid (show (serverT u ++ u.path).length = (serverT u).length + u.path.length from List.length_append)
  obtain ⟨q2, c2, rfl, _, _, _, _, _⟩ := row_open hr
  have h6 := hS 6 _ rfl
  cases bq with
  | false =>
    have h7 := hS 7 _ rfl
    cases bf with
    | false =>
      go_wp2
      go_ret
      have HE : textU u = serverT u ++ u.path := by rw [HT.out, HQ.out, HF.out]; simp
      rw [HE]
      have hll : (serverT u ++ u.path).length = (serverT u).length + u.path.length := by simp only [List.length_append]
      rw [hll]
      exact ⟨_, rfl, row_base hr (Nat.le_succ _), hB⟩
    | true =>
      rw [if_pos rfl] at hfl
      go_wp2_with fail
      refine pregion_any (Box w.heap.size #[.slice q0 n0 c0, .slice q1 n1 c1, .int .i64 u.port, .slice q3 n3 c3, .slice q4 n4 c4, .slice q5 n5 c5, .bool false, .bool true]) (by kernel_rfl) ?_
      have hSe : Box w.heap.size #[.slice q0 n0 c0, .slice q1 n1 c1, .int .i64 u.port, .slice q3 n3 c3, .slice q4 n4 c4, .slice q5 n5 c5, .bool false, .bool true] Y.drew := hS
      have hre := (Keep.drew (fun _ => True) Y).row hr (fun _ _ => trivial)
      have hBe : Below w.heap.size w Y.drew := hB.drew
      have hgte : w.heap.size + 1 ≤ Y.drew.heap.size := hgt
      clear hS hr hB hgt
      generalize Y.drew = Ye at *
      refine wpAnyH_take (i := 0) (v := (.slice q2 ((serverT u).length + u.path.length) c2)) rfl (by kernel_rfl) (by kernel_rfl) (by kernel_rfl) (fun _ _ _ h => h) (.inl ⟨by kernel_rfl, ?_⟩) hSe ?_
      · rintro w h; go_simp
      refine plist #[true, false, false, false, false, false, false] (by kernel_rfl) ?_
      refine wpAnyH_take (i := 3) (v := (.pointer (some ⟨w.heap.size, 5, none⟩))) rfl (by kernel_rfl) (by kernel_rfl) (by kernel_rfl) (fun _ _ _ h => h) (.inl ⟨by kernel_rfl, ?_⟩) hSe ?_
      · rintro w h; go_simp
      refine plist #[true, false, false, true, false, false, false] (by kernel_rfl) ?_
      refine wpAnyH_take (i := 4) (v := (.slice q5 n5 c5)) rfl (by kernel_rfl) (by kernel_rfl) (by kernel_rfl) (fun _ _ _ h => h) (.inl ⟨by kernel_rfl, ?_⟩) hSe ?_
      · rintro w h; have h' := h 5 _ rfl; go_simp
      refine plist #[true, false, false, true, true, false, false] (by kernel_rfl) ?_
      refine pone 1 (by kernel_rfl) rfl fun K hK => ?_
      go_simp
      refine hK _ _ (Box.on hSe ((Below.refl _ _).alloc (Nat.le_refl _) _)) ?_
      clear hK K
      refine plist #[true, true, false, true, true, false, false] (by kernel_rfl) ?_
      refine pone 2 (by kernel_rfl) rfl fun K hK => ?_
      rw [if_pos (by rfl)]
      refine wp_append_by (Operand.tmp 19) (Operand.tmp 20) rfl (w.heap.size + 1) _ _ _ rfl (hre.alloc _) _ [35] rfl (by_lit Ye #[.int .u8 35] [35] (0, 0) 1 rfl rfl (by decide)) (by simp; omega) (by simp; omega) ?_
      intro va Za hra hga
      have hba : Below (w.heap.size + 1) Ye Za := (((Below.refl Ye.heap.size Ye).alloc (Nat.le_refl _) (.cells #[.int .u8 35] 5)).mono hgte).trans (grown_below (hre.alloc _) hga (by simp; omega))
      have hSa := Box.below hSe hba (Nat.lt_succ_self _)
      refine hK _ _ hSa ?_
      clear hK K
      refine plist #[true, true, true, true, true, false, false] (by kernel_rfl) ?_
      refine pone 5 (by kernel_rfl) rfl fun K hK => ?_
      rw [if_pos (by rfl)]
      refine wp_append_by (Operand.tmp 21) (Operand.tmp 23) rfl (w.heap.size + 1) va _ _ rfl hra _ u.frag rfl (h5.on (hBe.trans (hba.mono (Nat.le_succ _)))) (by simp; omega) (Nat.le_trans hgte hba.size) ?_
      intro vf Yf hrf hgb
      have hbb : Below (w.heap.size + 1) Ye Yf := hba.trans (grown_below hra hgb (Nat.le_trans hgte hba.size))
      have hSf := Box.below hSe hbb (Nat.lt_succ_self _)
      refine hK _ _ hSf ?_
      clear hK K
      refine plist #[true, true, true, true, true, true, false] (by kernel_rfl) ?_
      refine pone 6 (by kernel_rfl) rfl fun K hK => ?_
      go_simp
      refine hK _ _ hSf ?_
      clear hK K
      refine pdone (by kernel_rfl) ?_ _
      have hBf := hBe.trans (hbb.mono (Nat.le_succ _))
      have hgtf := Nat.le_trans hgte hbb.size
      rw [List.length_singleton, ← byV_app, ← byV_app] at hrf
      obtain ⟨qf, ccf, rfl, _, _, _, _, _⟩ := row_open hrf
      clear hra hga hba hgb hbb hSa hSe hre hBe hgte
      go_wp2
      go_ret
      have HE : textU u = (serverT u ++ u.path) ++ [35] ++ u.frag := by rw [HT.out, HQ.out, HF.out]; simp
      rw [HE]
      have hll : ((serverT u ++ u.path) ++ [35] ++ u.frag).length = (serverT u).length + u.path.length + 1 + u.frag.length := by simp only [List.length_append, List.length_cons, List.length_nil]
      rw [hll]
      exact ⟨_, rfl, row_base hrf (Nat.le_succ _), hBf⟩
  | true =>
    rw [if_pos rfl] at hql
    go_wp2_with fail
    refine pregion_any (Box w.heap.size #[.slice q0 n0 c0, .slice q1 n1 c1, .int .i64 u.port, .slice q3 n3 c3, .slice q4 n4 c4, .slice q5 n5 c5, .bool true, .bool bf]) (by kernel_rfl) ?_
    have hSb : Box w.heap.size #[.slice q0 n0 c0, .slice q1 n1 c1, .int .i64 u.port, .slice q3 n3 c3, .slice q4 n4 c4, .slice q5 n5 c5, .bool true, .bool bf] Y.drew := hS
    have hrb := (Keep.drew (fun _ => True) Y).row hr (fun _ _ => trivial)
    have hBb : Below w.heap.size w Y.drew := hB.drew
    have hgtb : w.heap.size + 1 ≤ Y.drew.heap.size := hgt
    clear hS hr hB hgt
    generalize Y.drew = Yb at *
    refine wpAnyH_take (i := 0) (v := (.slice q2 ((serverT u).length + u.path.length) c2)) rfl (by kernel_rfl) (by kernel_rfl) (by kernel_rfl) (fun _ _ _ h => h) (.inl ⟨by kernel_rfl, ?_⟩) hSb ?_
    · rintro w h; go_simp
    refine plist #[true, false, false, false, false, false, false] (by kernel_rfl) ?_
    refine wpAnyH_take (i := 3) (v := (.pointer (some ⟨w.heap.size, 4, none⟩))) rfl (by kernel_rfl) (by kernel_rfl) (by kernel_rfl) (fun _ _ _ h => h) (.inl ⟨by kernel_rfl, ?_⟩) hSb ?_
    · rintro w h; go_simp
    refine plist #[true, false, false, true, false, false, false] (by kernel_rfl) ?_
    refine wpAnyH_take (i := 4) (v := (.slice q4 n4 c4)) rfl (by kernel_rfl) (by kernel_rfl) (by kernel_rfl) (fun _ _ _ h => h) (.inl ⟨by kernel_rfl, ?_⟩) hSb ?_
    · rintro w h; have h' := h 4 _ rfl; go_simp
    refine plist #[true, false, false, true, true, false, false] (by kernel_rfl) ?_
    refine pone 1 (by kernel_rfl) rfl fun K hK => ?_
    go_simp
    refine hK _ _ (Box.on hSb ((Below.refl _ _).alloc (Nat.le_refl _) _)) ?_
    clear hK K
    refine plist #[true, true, false, true, true, false, false] (by kernel_rfl) ?_
    refine pone 2 (by kernel_rfl) rfl fun K hK => ?_
    rw [if_pos (by rfl)]
    refine wp_append_by (Operand.tmp 11) (Operand.tmp 12) rfl (w.heap.size + 1) _ _ _ rfl (hrb.alloc _) _ [63] rfl (by_lit Yb #[.int .u8 63] [63] (0, 0) 1 rfl rfl (by decide)) (by simp; omega) (by simp; omega) ?_
    intro va Za hra hga
    have hba : Below (w.heap.size + 1) Yb Za := (((Below.refl Yb.heap.size Yb).alloc (Nat.le_refl _) (.cells #[.int .u8 63] 5)).mono hgtb).trans (grown_below (hrb.alloc _) hga (by simp; omega))
    have hSa := Box.below hSb hba (Nat.lt_succ_self _)
    refine hK _ _ hSa ?_
    clear hK K
    refine plist #[true, true, true, true, true, false, false] (by kernel_rfl) ?_
    refine pone 5 (by kernel_rfl) rfl fun K hK => ?_
    rw [if_pos (by rfl)]
    refine wp_append_by (Operand.tmp 13) (Operand.tmp 15) rfl (w.heap.size + 1) va _ _ rfl hra _ u.query rfl (h4.on (hBb.trans (hba.mono (Nat.le_succ _)))) (by simp; omega) (Nat.le_trans hgtb hba.size) ?_
    intro vc Yc hrc hgb
    have hbb : Below (w.heap.size + 1) Yb Yc := hba.trans (grown_below hra hgb (Nat.le_trans hgtb hba.size))
    have hSc := Box.below hSb hbb (Nat.lt_succ_self _)
    refine hK _ _ hSc ?_
    clear hK K
    refine plist #[true, true, true, true, true, true, false] (by kernel_rfl) ?_
    refine pone 6 (by kernel_rfl) rfl fun K hK => ?_
    go_simp
    refine hK _ _ hSc ?_
    clear hK K
    refine pdone (by kernel_rfl) ?_ _
    have hBc := hBb.trans (hbb.mono (Nat.le_succ _))
    have hgtc := Nat.le_trans hgtb hbb.size
    rw [List.length_singleton, ← byV_app, ← byV_app] at hrc
    obtain ⟨qc, ccc, rfl, _, _, _, _, _⟩ := row_open hrc
    clear hra hga hba hgb hbb hSa hSb hrb hBb hgtb
    have h7 := hSc 7 _ rfl
    cases bf with
    | false =>
      go_wp2
      go_ret
      have HE : textU u = (serverT u ++ u.path) ++ [63] ++ u.query := by rw [HT.out, HQ.out, HF.out]; simp
      rw [HE]
      have hll : ((serverT u ++ u.path) ++ [63] ++ u.query).length = (serverT u).length + u.path.length + 1 + u.query.length := by simp only [List.length_append, List.length_cons, List.length_nil]
      rw [hll]
      exact ⟨_, rfl, row_base hrc (Nat.le_succ _), hBc⟩
    | true =>
      rw [if_pos rfl] at hfl
      go_wp2_with fail
      refine pregion_any (Box w.heap.size #[.slice q0 n0 c0, .slice q1 n1 c1, .int .i64 u.port, .slice q3 n3 c3, .slice q4 n4 c4, .slice q5 n5 c5, .bool true, .bool true]) (by kernel_rfl) ?_
      have hSe : Box w.heap.size #[.slice q0 n0 c0, .slice q1 n1 c1, .int .i64 u.port, .slice q3 n3 c3, .slice q4 n4 c4, .slice q5 n5 c5, .bool true, .bool true] Yc.drew := hSc
      have hre := (Keep.drew (fun _ => True) Yc).row hrc (fun _ _ => trivial)
      have hBe : Below w.heap.size w Yc.drew := hBc.drew
      have hgte : w.heap.size + 1 ≤ Yc.drew.heap.size := hgtc
      clear hSc hrc hBc hgtc
      generalize Yc.drew = Ye at *
      refine wpAnyH_take (i := 0) (v := (.slice qc ((serverT u).length + u.path.length + 1 + u.query.length) ccc)) rfl (by kernel_rfl) (by kernel_rfl) (by kernel_rfl) (fun _ _ _ h => h) (.inl ⟨by kernel_rfl, ?_⟩) hSe ?_
      · rintro w h; go_simp
      refine plist #[true, false, false, false, false, false, false] (by kernel_rfl) ?_
      refine wpAnyH_take (i := 3) (v := (.pointer (some ⟨w.heap.size, 5, none⟩))) rfl (by kernel_rfl) (by kernel_rfl) (by kernel_rfl) (fun _ _ _ h => h) (.inl ⟨by kernel_rfl, ?_⟩) hSe ?_
      · rintro w h; go_simp
      refine plist #[true, false, false, true, false, false, false] (by kernel_rfl) ?_
      refine wpAnyH_take (i := 4) (v := (.slice q5 n5 c5)) rfl (by kernel_rfl) (by kernel_rfl) (by kernel_rfl) (fun _ _ _ h => h) (.inl ⟨by kernel_rfl, ?_⟩) hSe ?_
      · rintro w h; have h' := h 5 _ rfl; go_simp
      refine plist #[true, false, false, true, true, false, false] (by kernel_rfl) ?_
      refine pone 1 (by kernel_rfl) rfl fun K hK => ?_
      go_simp
      refine hK _ _ (Box.on hSe ((Below.refl _ _).alloc (Nat.le_refl _) _)) ?_
      clear hK K
      refine plist #[true, true, false, true, true, false, false] (by kernel_rfl) ?_
      refine pone 2 (by kernel_rfl) rfl fun K hK => ?_
      rw [if_pos (by rfl)]
      refine wp_append_by (Operand.tmp 19) (Operand.tmp 20) rfl (w.heap.size + 1) _ _ _ rfl (hre.alloc _) _ [35] rfl (by_lit Ye #[.int .u8 35] [35] (0, 0) 1 rfl rfl (by decide)) (by simp; omega) (by simp; omega) ?_
      intro va Za hra hga
      have hba : Below (w.heap.size + 1) Ye Za := (((Below.refl Ye.heap.size Ye).alloc (Nat.le_refl _) (.cells #[.int .u8 35] 5)).mono hgte).trans (grown_below (hre.alloc _) hga (by simp; omega))
      have hSa := Box.below hSe hba (Nat.lt_succ_self _)
      refine hK _ _ hSa ?_
      clear hK K
      refine plist #[true, true, true, true, true, false, false] (by kernel_rfl) ?_
      refine pone 5 (by kernel_rfl) rfl fun K hK => ?_
      rw [if_pos (by rfl)]
      refine wp_append_by (Operand.tmp 21) (Operand.tmp 23) rfl (w.heap.size + 1) va _ _ rfl hra _ u.frag rfl (h5.on (hBe.trans (hba.mono (Nat.le_succ _)))) (by simp; omega) (Nat.le_trans hgte hba.size) ?_
      intro vf Yf hrf hgb
      have hbb : Below (w.heap.size + 1) Ye Yf := hba.trans (grown_below hra hgb (Nat.le_trans hgte hba.size))
      have hSf := Box.below hSe hbb (Nat.lt_succ_self _)
      refine hK _ _ hSf ?_
      clear hK K
      refine plist #[true, true, true, true, true, true, false] (by kernel_rfl) ?_
      refine pone 6 (by kernel_rfl) rfl fun K hK => ?_
      go_simp
      refine hK _ _ hSf ?_
      clear hK K
      refine pdone (by kernel_rfl) ?_ _
      have hBf := hBe.trans (hbb.mono (Nat.le_succ _))
      have hgtf := Nat.le_trans hgte hbb.size
      rw [List.length_singleton, ← byV_app, ← byV_app] at hrf
      obtain ⟨qf, ccf, rfl, _, _, _, _, _⟩ := row_open hrf
      clear hra hga hba hgb hbb hSa hSe hre hBe hgte
      go_wp2
      go_ret
      have HE : textU u = ((serverT u ++ u.path) ++ [63] ++ u.query) ++ [35] ++ u.frag := by rw [HT.out, HQ.out, HF.out]; simp
      rw [HE]
      have hll : (((serverT u ++ u.path) ++ [63] ++ u.query) ++ [35] ++ u.frag).length = (serverT u).length + u.path.length + 1 + u.query.length + 1 + u.frag.length := by simp only [List.length_append, List.length_cons, List.length_nil]
      rw [hll]
      exact ⟨_, rfl, row_base hrf (Nat.le_succ _), hBf⟩

end Go.Proofs.YtdbpbfbjebjbeaaDoor.Url

namespace Go.Proofs.YtdbpbfbjebjbeaaDoor.Url
open Go.RowKit Go.Shelf
attribute [local go_sem] Oper.semAt_some

/-- A URL's zero value, cell by cell. -/
def zeroU : Array Value := #[.slice none 0 0, .slice none 0 0, .int .i64 0, .slice none 0 0, .slice none 0 0, .slice none 0 0, .bool false, .bool false]
/-- Block B holds a URL's cells. -/
def UB (B : Nat) (cs : Array Value) (X : World) : Prop := X.heap[B]? = some (.cells cs 31 (0, 0))
theorem UB.box {B : Nat} {cs : Array Value} {X : World} (h : UB B cs X) : Box B cs X := fun i x hx => by
  simp only [World.cell?, show X.heap[B]? = _ from h]; exact hx
theorem UB.frozen {B : Nat} {cs : Array Value} {X : World} (h : UB B cs X) (i : Nat) : X.frozen? ⟨B, i, none⟩ = false := by
  simp [World.frozen?, show X.heap[B]? = _ from h]
theorem UB.on {B : Nat} {cs : Array Value} {X Y : World} (h : UB B cs X) (hk : Below X.heap.size X Y) : UB B cs Y := (hk.block B (Array.getElem?_eq_some_iff.1 h).1).trans h
theorem UB.lt {B : Nat} {cs : Array Value} {X : World} (h : UB B cs X) : B < X.heap.size := (Array.getElem?_eq_some_iff.1 h).1
theorem UB.new (w : World) (cs : Array Value) : UB w.heap.size cs (w.alloc (.cells cs 31)) := World.alloc_heap_new w _
theorem UB.set {B : Nat} {cs : Array Value} {X : World} (h : UB B cs X) (i : Nat) (v : Value) : UB B (cs.setIfInBounds i v) (X.setCell ⟨B, i, none⟩ v) := by
  obtain ⟨hlt, hk⟩ := Array.getElem?_eq_some_iff.1 h
  show (X.heap.modify B _)[B]? = _
  rw [Array.getElem?_eq_getElem (by rw [Array.size_modify]; exact hlt), Array.getElem_modify_self, hk]
  rfl
/-- All eight cells set, one by one. -/
theorem UB.put {B : Nat} {X : World} {a0 a1 a2 a3 a4 a5 a6 a7 : Value} (h : UB B #[a0, a1, a2, a3, a4, a5, a6, a7] X) (v0 v1 v2 v3 v4 v5 v6 v7 : Value) :
    ∃ Y, (((((((X.setCell ⟨B, 0, none⟩ v0).setCell ⟨B, 1, none⟩ v1).setCell ⟨B, 2, none⟩ v2).setCell ⟨B, 3, none⟩ v3).setCell ⟨B, 4, none⟩ v4).setCell ⟨B, 5, none⟩ v5).setCell ⟨B, 6, none⟩ v6).setCell ⟨B, 7, none⟩ v7 = Y ∧
      UB B #[v0, v1, v2, v3, v4, v5, v6, v7] Y ∧ (∀ S : Nat → Prop, ¬ S B → Keep S X Y) ∧ ∀ M, M ≤ B → Below M X Y := by
  have h8 := (((((((h.set 0 v0).set 1 v1).set 2 v2).set 3 v3).set 4 v4).set 5 v5).set 6 v6).set 7 v7
  simp only [List.setIfInBounds_toArray, List.set_cons_zero, List.set_cons_succ] at h8
  refine ⟨_, rfl, h8, fun S hS => ?_, fun M hM => ?_⟩
  · exact (Keep.setCell _ _ _ hS).trans ((Keep.setCell _ _ _ hS).trans ((Keep.setCell _ _ _ hS).trans ((Keep.setCell _ _ _ hS).trans ((Keep.setCell _ _ _ hS).trans ((Keep.setCell _ _ _ hS).trans ((Keep.setCell _ _ _ hS).trans (Keep.setCell _ _ _ hS)))))))
  · exact (((((((((Below.refl M X).setCell (p := ⟨B, 0, none⟩) hM v0).setCell (p := ⟨B, 1, none⟩) hM v1).setCell (p := ⟨B, 2, none⟩) hM v2).setCell (p := ⟨B, 3, none⟩) hM v3).setCell (p := ⟨B, 4, none⟩) hM v4).setCell (p := ⟨B, 5, none⟩) hM v5).setCell (p := ⟨B, 6, none⟩) hM v6).setCell (p := ⟨B, 7, none⟩) hM v7)
theorem size_url : (Tryd.prog.info? 31).map (·.size) = some 8 := by kernel_rfl
theorem ret_url2 {fn : Func} {p u : Tmp} (h : fn.results = #[.cell p 31, .tmp u]) (tmps : Array Value) (w : World) (B : Nat) (cs : Array Value) (hp : tmps.getD p undef = .pointer (some ⟨B, 0, none⟩)) (hU : UB B cs w) (hs : cs.size = 8) :
    (results fn tmps).run Tryd.prog w = .ok (.tuple #[.agg cs, tmps.getD u undef]) w := by
  rw [results_cell_tmp h, hp]
  simp [asAddr, Result.andThen, run_loadVar_row w B 31 _ cs (0, 0) _ hU Tryd.underlying31 rfl (by rw [size_url, hs])]

end Go.Proofs.YtdbpbfbjebjbeaaDoor.Url

namespace Go.Proofs.YtdbpbfbjebjbeaaDoor.Host
open Go.RowKit Go.Shelf
attribute [local go_sem] Oper.semAt_some

/-- What is told of a host: it, and, if that goes on, what is above it. -/
def upX (g : Bool) (l : List UInt8) : List (List UInt8) := if g then Ref.fromL 46 (Ref.splitL 46 l) else [l]
theorem upX_one (l : List UInt8) : upX false l = [l] := rfl
theorem upX_many (l : List UInt8) : upX true l = l :: (match tailL 46 l with | none => [] | some r => upX true r) := from_split 46 l
theorem tail_at (c : UInt8) : ∀ l : List UInt8, tailL c l = if atOk c l = true then some (atSnd c l) else none
  | [] => by simp [tailL, atOk, Lib.indexByte]
  | b :: r => by
    have ih := tail_at c r
    have hge := Lib.indexByte_ge r c
    by_cases h : b = c
    · subst h
      simp [tailL, atOk, atSnd, Lib.indexByte]
    · have e1 : tailL c (b :: r) = tailL c r := by conv => lhs; unfold tailL; rw [if_neg h]
      rw [e1, ih]
      by_cases h0 : 0 ≤ Lib.indexByte r c
      · obtain ⟨k, hk⟩ : ∃ k : Nat, Lib.indexByte r c = (k : Int) := ⟨(Lib.indexByte r c).toNat, by omega⟩
        have hk2 : Lib.indexByte (b :: r) c = ((k + 1 : Nat) : Int) := by
          unfold Lib.indexByte
          rw [if_neg (by simpa using h), hk, if_neg (by rw [beq_iff_eq]; omega)]; simp
        obtain ⟨_, s1, o1⟩ := at_found c r k hk
        obtain ⟨_, s2, o2⟩ := at_found c (b :: r) (k + 1) hk2
        rw [s1, o1, s2, o2]; rfl
      · have hk : Lib.indexByte r c = -1 := by omega
        have hk2 : Lib.indexByte (b :: r) c = -1 := by
          unfold Lib.indexByte
          rw [if_neg (by simpa using h), hk]; rfl
        obtain ⟨_, s1, o1⟩ := at_none c r hk
        obtain ⟨_, s2, o2⟩ := at_none c (b :: r) hk2
        rw [o1, o2]; rfl
theorem upX_found (l : List UInt8) (h : atOk 46 l = true) : upX true l = l :: upX true (atSnd 46 l) := by
  rw [upX_many, tail_at, if_pos h]
theorem upX_none (l : List UInt8) (h : atOk 46 l = false) : upX true l = [l] := by
  rw [upX_many, tail_at, if_neg (by rw [h]; simp)]
theorem atSnd_len (l : List UInt8) (h : atOk 46 l = true) : (atSnd 46 l).length < l.length := by
  have ht := tail_at 46 l
  rw [if_pos h] at ht
  exact tail_len 46 l _ ht
theorem upX_up (l : List UInt8) (h : parseE l = 0) (hl : Ref.lowL l = l) : upL l = upX (!addressB l) l := by
  unfold upL
  rw [if_pos ⟨h, hl⟩]
  have ha : addressB l = addrB (Ref.splitL 46 l) := by unfold addressB; rw [h]; rfl
  rw [ha]
  cases addrB (Ref.splitL 46 l) <;> rfl

theorem row_nil {W : World} {base : Nat} {e : TypeId} {size n c m : Nat} {xs : List Value} (h : W.ownsRow base e size (.slice none n c) m xs) : n = 0 ∧ c = 0 := by
  rcases h.2 with ⟨h1, _⟩ | ⟨g, cap, cur, h1, _⟩
  · cases h1; exact ⟨rfl, rfl⟩
  · cases h1

def sliceN : Value → Nat
  | .slice _ n _ => n
  | _ => 0
def boolN : Value → Nat
  | .bool true => 1
  | _ => 0

set_option maxRecDepth 100000 in
set_option maxHeartbeats 4000000 in
theorem Up2_iter (B Bg : Nat) (q : Option Addr) (n c : Nat) (l : List UInt8) (g : Bool) (RB : Nat → Prop) (w0 : World)
    (hl : l.length = n) (hn : n ≤ 1099511627775) (hnc : n ≤ c) (hq0 : q = none → n = 0 ∧ c = 0) (hb : Lib.BytesIn w0 q n (Lib.numsL l)) (hq : ∀ a, q = some a → 0 < n → RB a.block)
    (hB : Boxed w0 B 22 (.slice q n c)) (hRB : RB B) (hG : Boxed w0 Bg 4 (.bool g)) (hRG : RB Bg) (hRs : ∀ b, RB b → b < w0.heap.size) :
    IterC Tryd.prog 91 #[.pointer (some ⟨B, 0, none⟩), .pointer (some ⟨Bg, 0, none⟩)] RowArg (upX g l) RB w0 := by
  intro l' J Jx W hW hJ hJx hY h0
  refine (callsIn_wide (n := 1)).1 ?_
  refine callsIn_of_wp Tryd.func91 rfl trivial ?_ rfl
  simp only [Tryd.ntmps91, List.size_toArray, List.length_cons, List.length_nil, Nat.reduceAdd, Nat.reduceSub, Array.replicate_succ, Array.replicate_zero, List.push_toArray, List.append_toArray, List.nil_append, List.cons_append]
  have bB := (hW.boxed hB hRB).cell
  have hbW := bytes_keep hb hW hq
  have hll := Lib.hid hl
  gi_wp2
  gi_loopw [4, 5] (fun r m wr => Keep RB W wr ∧ ∃ pre : List (List UInt8), ∃ Q : Nat → Prop, J pre Q wr ∧ (∀ b, Q b → b < wr.heap.size) ∧
    ((m = .bool false ∧ Hid (upX g l = pre)) ∨
      (m = .bool true ∧ ∃ (qr : Option Addr) (nr cr : Nat) (lr : List UInt8), r = .slice qr nr cr ∧ Hid (lr.length = nr) ∧ nr ≤ n ∧ nr ≤ cr ∧ (qr = none → nr = 0 ∧ cr = 0) ∧ Lib.BytesIn wr qr nr (Lib.numsL lr) ∧ (∀ a, qr = some a → 0 < nr → RB a.block ∨ Q a.block) ∧ Hid (upX g l = pre ++ upX g lr)))) (fun r m _ => sliceN r + boolN m)
  case atStart =>
    exact ⟨Keep.refl _ _, [], fun _ => False, h0, fun _ h => h.elim, .inr ⟨rfl, q, n, c, l, rfl, hll, Nat.le_refl _, hnc, hq0, hbW, fun a h1 h2 => .inl (hq a h1 h2), rfl⟩⟩
  case round =>
    obtain ⟨hKr, pre, Q, hJr, hQl, ⟨rfl, HX⟩ | ⟨rfl, qr, nr, cr, lr, rfl, HL, hnr, hrc, hr0, hbr, hqr, HX⟩⟩ := hrel
    · clear hY hb hbW
      gi_wp2_with fail
      refine ⟨trivial, ?_⟩
      gi_wp2
      refine ⟨fun _ h => (by cases h), ?_⟩
      gi_wp2
      refine bodyPost_end (results_none rfl _ _ _) rfl ?_
      exact ⟨⟨_, rfl⟩, Q, hQl, .inl (by rw [HX.out]; exact hJr)⟩
    · have con := Clone_any qr nr cr lr wr HL.out (by omega) hbr
      have hgo : ∀ W', Keep RB W W' → W'.cell? ⟨Bg, 0, none⟩ = some (.bool g) := fun W' h => ((hW.trans h).boxed hG hRG).cell
      obtain ⟨r2, HX2⟩ : ∃ r2, Hid (upX g l = pre ++ lr :: r2) := by
        cases g with
        | false => exact ⟨[], Lib.hid (by rw [HX.out, upX_one])⟩
        | true => exact ⟨_, Lib.hid (by rw [HX.out, upX_many])⟩
      have key := fun (w4 : World) (v4 : Value) => yield_row (w4 := w4) (v4 := v4) (n := nr) hJ hY HX2.out hJr hQl
      have hRBl : ∀ b, RB b → b < wr.heap.size := fun b h => Nat.lt_of_lt_of_le (Nat.lt_of_lt_of_le (hRs b h) hW.size) hKr.size
      have hnl := HL.out
      clear hY hb hbW
      gi_wp2_with fail
      refine ⟨trivial, (callsIn_wide.2 con).mono ?_⟩
      rintro e w4 ⟨v4, rfl, hrow4, hbel4⟩
      obtain ⟨fn, tmps, assign, body, hy, hR⟩ := key w4 v4 hbel4 hnl hrow4
      clear key con hrow4
      gi_wp2_with fail
      refine hR.mono ?_
      rintro e W5 ⟨ok, rfl, hkp, Q', hQQ, hQl', hpost⟩
      have hk5 : Keep RB wr W5 := hkp.mono fun b _ h => .inl h
      have hbr5 := bytes_keep hbr hkp (fun a h1 h2 => hqr a h1 h2)
      have cg5 := hgo W5 (hKr.trans hk5)
      clear hR hy hbel4 hkp
      cases ok with
      | false =>
        have hj5 := (hpost.resolve_left (by simp)).2
        clear hpost
        gi_wp2
        refine bodyPost_end (results_none rfl _ _ _) rfl ?_
        exact ⟨⟨_, rfl⟩, Q', hQl', .inr ⟨pre ++ [lr], r2, by rw [HX2.out]; simp, hj5⟩⟩
      | true =>
        have hj5 := (hpost.resolve_right (by simp)).2
        have con2 := At_any qr nr cr lr 46 W5 hnl (by omega) hrc hr0 hbr5
        clear hpost
        gi_wp2_with fail
        refine ⟨trivial, (callsIn_wide.2 con2).mono ?_⟩
        rintro e w6 ⟨v1, v2, rfl, hrow1, hrow2, hbel6⟩
        have hk6 : Keep RB W w6 := (hKr.trans hk5).trans ((Keep.of_below hbel6).mono fun b hb _ => hb)
        have cg6 := hgo w6 hk6
        have hs6 := hbel6.size
        have hq6 : ∀ b, (Q' b ∨ (W5.heap.size ≤ b ∧ b < w6.heap.size)) → b < w6.heap.size := fun b hb => hb.elim (fun h => Nat.lt_of_lt_of_le (hQl' b h) hs6) And.right
        have j6 := hJ _ _ (fun b => Q' b ∨ (W5.heap.size ≤ b ∧ b < w6.heap.size)) _ _ hj5 ((Keep.of_below hbel6).mono fun b hb _ => hb) (fun b hb => ⟨hb.imp id And.left, hq6 b hb⟩)
        obtain ⟨q2, c2, rfl, _, hnc2, hcm2, hbs2, hblk2⟩ := row_open hrow2
        have hq20 : q2 = none → (atSnd 46 lr).length = 0 ∧ c2 = 0 := fun h => by subst h; exact row_nil hrow2
        have hq2b : ∀ a, q2 = some a → 0 < (atSnd 46 lr).length → RB a.block ∨ (Q' a.block ∨ (W5.heap.size ≤ a.block ∧ a.block < w6.heap.size)) := fun a ha _ => .inr (.inr ⟨(hblk2 a ha).2.1, (hblk2 a ha).1⟩)
        cases hok : atOk 46 lr with
        | false =>
          have HN := Lib.hid (show upX g l = pre ++ [lr] by
            rw [HX.out]
            cases g with
            | false => rfl
            | true => rw [upX_none lr hok])
          have hz : (atSnd 46 lr).length = 0 := by
            have := Lib.indexByte_ge lr 46
            rw [(at_none 46 lr (by unfold atOk at hok; rw [decide_eq_false_iff_not] at hok; omega)).2.1]; rfl
          rw [hz] at *
          clear con2 hrow1 hrow2 hok HX HX2 hbs2 hblk2
          gi_wp2
          go_roundw
          case rel => exact ⟨hk6, _, _, j6, hq6, .inl ⟨rfl, HN⟩⟩
          case measure => simp [sliceN, boolN]
        | true =>
          have hlt := atSnd_len lr hok
          cases g with
          | false =>
            have HN := Lib.hid (show upX false l = pre ++ [lr] by rw [HX.out]; rfl)
            clear con2 hrow1 hrow2 hok HX HX2 hbs2 hblk2
            gi_wp2
            go_roundw
            case rel => exact ⟨hk6, _, _, j6, hq6, .inl ⟨rfl, HN⟩⟩
            case measure => simp [sliceN, boolN]; omega
          | true =>
            have HN := Lib.hid (show upX true l = (pre ++ [lr]) ++ upX true (atSnd 46 lr) by rw [HX.out, upX_found lr hok]; simp)
            clear con2 hrow1 hrow2 hok HX HX2 hblk2
            gi_wp2
            go_roundw
            case rel => exact ⟨hk6, _, _, j6, hq6, .inr ⟨rfl, q2, _, c2, atSnd 46 lr, rfl, rfl, by omega, hnc2, hq20, hbs2, hq2b, HN⟩⟩
            case measure => simp [sliceN, boolN]; omega

end Go.Proofs.YtdbpbfbjebjbeaaDoor.Host
