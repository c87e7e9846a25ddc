/- percent.Canon. Conditions: a text is of at most 2^38 bytes. -/
import Derived.Test.YtfhgbokimkmpjaaPctJ
namespace Go.Proofs.Ytfhgbokimkmpjaa.Pct
open Go.RowKit Go.Shelf
attribute [local go_sem] Oper.semAt_some

theorem grown_keep {W w1 : World} {n₀ B : Nat} {t e : TypeId} {size : Nat} {v v' : Value} {k m : Nat} {xs ys : List Value} {S : Nat → Prop}
    (hv : Boxed W B t v) (hte : t ≠ e) (hrow : W.ownsRow n₀ e size v k xs) (hS : ¬ S B) (hSo : ∀ b, v.ownBlock = some b → ¬ S b) (hown' : w1.ownsRow n₀ e size v' m ys) (hG : Grown W v w1 v') :
    Boxed w1 B t v ∧ Boxed (w1.setCell ⟨B, 0, none⟩ v') B t v' ∧ (w1.setCell ⟨B, 0, none⟩ v').ownsRow n₀ e size v' m ys ∧ Keep S W (w1.setCell ⟨B, 0, none⟩ v') := by
  have hv1 : Boxed w1 B t v := (hG.1 (fun b => v.ownBlock ≠ some b) (fun b hb h => h hb)).boxed hv (hv.not_row hte hrow).symm
  exact ⟨hv1, hv1.set v', hown'.kept (grownBy_setCell' w1 B v') (.inr (hv1.not_row hte hown').symm), (hG.1 S hSo).trans (Keep.setCell _ _ _ hS)⟩
theorem can_one (p : Int) (pre : List (UInt8 × Bool)) (x : UInt8) (cd : Bool) : canL p (pre ++ [(x, cd)]) = canL p pre ++ putL (canB p (x, cd)) x := by
  simp [canL]

set_option maxRecDepth 100000 in
set_option maxHeartbeats 4000000 in
theorem Canon_any (q : Option Addr) (n c : Nat) (l : List UInt8) (p : Int) (w : World) (hl : l.length = n) (hn : n ≤ 274877906944) (hb : Lib.BytesIn w q n (Lib.numsL l)) :
    Calls Try.prog 12 #[.slice q n c, .int .i64 p] w fun e w' => TextPost ((itemsL l).map (canL p)) w e w' := by
  obtain ⟨i0, hi0, hz0, hz1, hz2⟩ := info_parts info_u8
  obtain ⟨Wp, hWp⟩ : ∃ Wp, w.alloc (.cells #[.int .i64 p] 25) = Wp := ⟨_, rfl⟩
  have hbp : Boxed Wp w.heap.size 25 (.int .i64 p) := by rw [← hWp]; exact Boxed.new w _ _
  have hkp : ∀ S, Keep S w Wp := fun S => by rw [← hWp]; exact Keep.alloc S w _
  have hsp : Wp.heap.size = w.heap.size + 1 := by rw [← hWp]; simp
  have hql := bytes_lt hb
  replace hb := bytes_keep hb (hkp (fun _ => True)) (fun _ _ _ => trivial)
  have con := whole_any q n c l Wp hl (by omega) hb
  have HWp := Lib.hid hWp
  clear hWp
  refine (callsIn_wide (n := 1)).1 ?_
  refine callsIn_of_wp_marks Try.func12 rfl trivial ?_ rfl
  simp only [Try.ntmps12, List.size_toArray, List.length_cons, List.length_nil, Nat.reduceAdd, Nat.reduceSub, Array.replicate_succ, Array.replicate_zero, List.push_toArray, List.append_toArray, List.nil_append, List.cons_append]
  cases hw : wholeL l with
  | false =>
    have hi := whole_none l hw
    rw [hw] at con
    have HI := Lib.hid hi
    clear hi hw hl hb
    have hBp := (hkp (fun b => b < w.heap.size)).below (Nat.le_refl _)
    clear hsp hkp
    gi_wp2_with fail
    rw [HWp.out]
    refine ⟨trivial, (callsIn_wide.2 con).mono ?_⟩
    rintro e w' ⟨rfl, rfl⟩
    clear con hql
    gi_wp2
    refine ⟨_, results_tmp2 rfl _ _ _, .slice none 0 0, 2, rfl, Lib.hid (by rw [HI.out]; rfl), ?_, hBp⟩
    rw [HI.out]
    exact World.ownsRow_nil _ _ _ _
  | true =>
    obtain ⟨m, hm⟩ := whole_some l hw
    rw [hw] at con
    have hml : m.length ≤ n := by have := items_len l m hm; omega
    obtain ⟨w1, hrun, hown, hgrow⟩ := run_make_own (P := Try.prog) (w := Wp) (w.heap.size + 1) 22 5 i0 (.int .u8 0) 1 Try.underlying22 hi0 hz0 hz1 .i64 .i64 n (by rw [hz2]; omega) (by unfold maxLen; omega) (by omega)
    have hk1 : ∀ S, Keep S Wp w1 := fun S => Keep.of_grownBy hgrow (fun r h => by cases h)
    have hw1 : w.heap.size + 1 < w1.heap.size := by have := (hown.lt Wp.heap.size rfl).2; omega
    rw [hsp] at hown hrun
    obtain ⟨W1, hW1⟩ : ∃ W1, w1.alloc (.cells #[.slice (some ⟨w.heap.size + 1, 0, none⟩) 0 n] 22) = W1 := ⟨_, rfl⟩
    have hs1 : W1.heap.size = w1.heap.size + 1 := by rw [← hW1]; simp
    have b0 : Boxed (W1.alloc (.cells #[.slice q n c] 22)) w1.heap.size 22 (.slice (some ⟨w.heap.size + 1, 0, none⟩) 0 n) := by rw [← hW1]; exact (Boxed.new w1 _ _).alloc _
    have b1 := Boxed.new W1 22 (.slice q n c)
    have own0 : (W1.alloc (.cells #[.slice q n c] 22)).ownsRow (w.heap.size + 1) 5 1 (.slice (some ⟨w.heap.size + 1, 0, none⟩) 0 n) 0 [] := by rw [← hW1]; exact (hown.alloc _).alloc _
    have hk0 : ∀ S, Keep S Wp (W1.alloc (.cells #[.slice q n c] 22)) := fun S => by rw [← hW1]; exact (hk1 S).trans ((Keep.alloc S w1 _).trans (Keep.alloc S _ _))
    have hs0 : (W1.alloc (.cells #[.slice q n c] 22)).heap.size = w1.heap.size + 2 := by simp; omega
    have con2 := meant_any q n c W1
    have hb0 := bytes_keep hb (hk0 (fun _ => True)) (fun _ _ _ => trivial)
    have HM := Lib.hid hm
    have HL := Lib.hid hl
    have HW1 := Lib.hid hW1
    have HS1 := Lib.hid hs1
    have HS0 := Lib.hid hs0
    have HSP := Lib.hid hsp
    clear hm hw hl hgrow hown hk1 hW1 hs1 hs0 hb hsp
    gi_wp2_with fail
    rw [HWp.out]
    refine ⟨trivial, (callsIn_wide.2 con).mono ?_⟩
    rintro e w' ⟨rfl, rfl⟩
    clear con
    gi_wp2_with fail
    rw [HW1.out]
    refine ⟨trivial, (callsIn_wide.2 con2).mono ?_⟩
    rintro e W0 ⟨rfl, hW0⟩
    rw [← hW0] at b0 b1 own0 hk0 hb0 HS0
    clear con2 hW0 hrun
    gi_wp2
    have hs1 := HS1.out
    have hs0 := HS0.out
    replace hbp := (hk0 (fun _ => True)).boxed hbp trivial
    rw [hs1] at b1
    obtain ⟨RB, hRB⟩ : ∃ RB : Nat → Prop, RB = fun b => b < w.heap.size + 1 ∨ b = w1.heap.size + 1 := ⟨_, rfl⟩
    have hRl : ∀ b, RB b → b < W0.heap.size := fun b hb => by rw [hRB] at hb; rcases hb with h | h <;> omega
    have hRo : ∀ b, b < w.heap.size + 1 → RB b := fun b hb => by rw [hRB]; exact .inl hb
    have hRi : RB (w1.heap.size + 1) := by rw [hRB]; exact .inr rfl
    have hRn : ¬ RB w1.heap.size := fun hb => by rw [hRB] at hb; rcases hb with h | h <;> omega
    have hRr : ∀ b, RB b → w.heap.size + 1 ≤ b → b = w1.heap.size + 1 := fun b hb h => by rw [hRB] at hb; rcases hb with h' | h'; omega; exact h'
    clear hRB
    rw [hs1]
    clear hs1 HS1
    refine rf_law (gf := 27) (lb := #[.pointer (some ⟨w1.heap.size + 1, 0, none⟩)]) rfl (enters_of Try.func27 (by kernel_rfl) rfl)
      (meant1_iter (w1.heap.size + 1) q n c l m RB W0 HL.out (by omega) HM.out hb0 (fun a ha h0 => hRo _ (by have := hql a ha h0; omega)) b1 hRi) (Keep.refl _ _) hRl (fun x args G W h => by rw [h.1]; rfl)
      (CollI (canL p) (w.heap.size + 1) w1.heap.size RB W0) (fun _ _ _ _ => False) (CollI_abide _ _ _ _ _ (by omega) hRl) (fun _ _ _ _ _ _ h _ _ => h)
      ⟨_, b0, own0, (fun _ h => h.elim), (fun _ _ h => h), Keep.refl _ _⟩ ?round ?done ?stop
    case round =>
      rintro ll pre ⟨x, cd⟩ rest Pv G args Wr hll hxs ⟨v, hbx, hrow, hge, hnv, hKW⟩ hPl hGl hPb hGP ⟨rfl, rfl⟩
      have hpl : (canL p pre).length ≤ 70368744177664 := by
        have h1 : pre.length + rest.length + 1 = m.length := by rw [hxs]; simp; omega
        have h2 := can_len p pre
        omega
      have hxx := u8_lt x
      clear b0 own0 hb0 hxs
      gi_wp2
      refine ⟨Keep.refl _ _, fun W2 hk2 hs2 r hr => ?_⟩
      have hnP : ∀ b, b < W0.heap.size → ¬ Pv b := fun b hb h => by have := hge b h; omega
      have hk2' : Keep (fun b => ¬ Pv b) Wr W2 := hk2.mono fun b _ hb h => hb (h ▸ hPl)
      replace hbx := hk2'.boxed hbx (hnP _ (by omega))
      replace hrow := hk2'.row hrow hnv
      have hK2 : Keep RB W0 W2 := hKW.trans (hk2'.mono fun b _ hb => hnP b (hRl b hb))
      have hPl2 : ∀ b, Pv b → b < W2.heap.size := fun b hb => by rw [hs2]; exact hPb b hb
      have hvn : ∀ b, v.ownBlock = some b → ¬ (RB b ∨ Pv b) := fun b hb h => by
        rcases h with h | h
        · have h1 := hrow.lt b hb
          have h2 := hRr b h h1.1
          rw [h2] at hb
          exact (hK2.boxed b1 hRi).not_row (by decide) hrow hb.symm
        · exact hnv b hb h
      clear hk2 hk2' hs2 hr hKW
      obtain ⟨Wd, hWd⟩ : ∃ Wd, W2.drew = Wd := ⟨_, rfl⟩
      have hkd : ∀ S, Keep S W2 Wd := fun S => by rw [← hWd]; exact Keep.drew S W2
      replace hbx := (hkd (fun _ => True)).boxed hbx trivial
      replace hrow := (hkd (fun _ => True)).row hrow (fun _ _ => trivial)
      have hKd := hK2.trans (hkd RB)
      replace hPl2 : ∀ b, Pv b → b < Wd.heap.size := fun b hb => by rw [← hWd]; exact hPl2 b hb
      replace hbp := hKd.boxed hbp (hRo _ (by omega))
      have cB := hbx.cell
      have hS := hbp.cell
      have hszW := hKd.size
      have hwW : w.heap.size + 1 ≤ Wd.heap.size := by omega
      have HWd := Lib.hid hWd
      have c1 := isFree_any x
      have c2 := stands_any x p
      have c3 := fun s => appendByte_any (w.heap.size + 1) v (canL p pre) x s Wd hrow hwW hpl
      obtain ⟨z1, H1⟩ : ∃ z, Hid (freeB x = z) := ⟨_, rfl⟩
      obtain ⟨z2, H2⟩ : ∃ z, Hid (standsB p x = z) := ⟨_, rfl⟩
      rw [H1.out] at c1
      rw [H2.out] at c2
      have hcb : canB p (x, cd) = (z1 || (!cd && z2)) := by unfold canB; rw [H1.out, H2.out]
      clear hWd H1 H2
      gi_wp2_with fail
      refine region_any (fun X => X.cell? ⟨w.heap.size, 0, none⟩ = some (.int .i64 p)) (by kernel_rfl) ?_
      rw [HWd.out]
      cases z1
      · cases cd
        · have HC := Lib.hid (show canB p (x, false) = z2 by rw [hcb]; rfl)
          clear hcb
          refine anyC_take 1 (v := (.int .u8 (x.toNat : Int))) rfl (by kernel_rfl) (by kernel_rfl) (by kernel_rfl) (by kernel_rfl) (fun _ _ _ h => h) (.inl ⟨by rfl, fun X hX => ⟨fun _ _ => trivial, .inl ?_⟩⟩) hS ?_
          · go_simp
          simp only [Act.put, List.getElem_toArray, List.getElem_cons_zero, List.getElem_cons_succ, List.setIfInBounds_toArray, List.set_cons_zero, List.set_cons_succ]
          refine anyH_list #[false, true, false, false, false, false, false, false, false, false, false, false, false, false, false] (by kernel_rfl) ?_
          refine anyC_take 2 (v := (.int .u8 (x.toNat : Int))) rfl (by kernel_rfl) (by kernel_rfl) (by kernel_rfl) (by kernel_rfl) (fun _ _ _ h => h) (.inl ⟨by rfl, fun X hX => ⟨fun _ _ => trivial, .inl ?_⟩⟩) hS ?_
          · go_simp
          simp only [Act.put, List.getElem_toArray, List.getElem_cons_zero, List.getElem_cons_succ, List.setIfInBounds_toArray, List.set_cons_zero, List.set_cons_succ]
          refine anyH_list #[false, true, true, false, false, false, false, false, false, false, false, false, false, false, false] (by kernel_rfl) ?_
          refine anyC_take 3 (v := (.bool false)) rfl (by kernel_rfl) (by kernel_rfl) (by kernel_rfl) (by kernel_rfl) (fun _ _ _ h => h) (.inl ⟨by rfl, fun X hX => ⟨fun _ _ => trivial, .inr ⟨21, #[.int .u8 (x.toNat : Int)], ?_, (fun h => by cases h), (CallsIn.inRound ll (callsIn_wide.2 (c1 X))).mono (fun _ _ h => ⟨h.1, h.2.symm⟩)⟩⟩⟩) hS ?_
          · go_simp
          simp only [Act.put, List.getElem_toArray, List.getElem_cons_zero, List.getElem_cons_succ, List.setIfInBounds_toArray, List.set_cons_zero, List.set_cons_succ]
          refine anyH_list #[false, true, true, true, false, false, false, false, false, false, false, false, false, false, false] (by kernel_rfl) ?_
          refine anyC_take 4 (v := (.bool false)) rfl (by kernel_rfl) (by kernel_rfl) (by kernel_rfl) (by kernel_rfl) (fun _ _ _ h => h) (.inl ⟨by rfl, fun X hX => ⟨fun _ _ => trivial, .inl ?_⟩⟩) hS ?_
          · go_simp
          simp only [Act.put, List.getElem_toArray, List.getElem_cons_zero, List.getElem_cons_succ, List.setIfInBounds_toArray, List.set_cons_zero, List.set_cons_succ]
          refine anyH_list #[false, true, true, true, true, false, false, false, false, false, false, false, false, false, false] (by kernel_rfl) ?_
          refine anyC_take 5 (v := (.bool false)) rfl (by kernel_rfl) (by kernel_rfl) (by kernel_rfl) (by kernel_rfl) (fun _ _ _ h => h) (.inl ⟨by rfl, fun X hX => ⟨fun _ _ => trivial, .inl ?_⟩⟩) hS ?_
          · go_simp
          simp only [Act.put, List.getElem_toArray, List.getElem_cons_zero, List.getElem_cons_succ, List.setIfInBounds_toArray, List.set_cons_zero, List.set_cons_succ]
          refine anyH_list #[false, true, true, true, true, true, false, false, false, false, false, false, false, false, false] (by kernel_rfl) ?_
          refine anyC_take 6 (v := (.bool true)) rfl (by kernel_rfl) (by kernel_rfl) (by kernel_rfl) (by kernel_rfl) (fun _ _ _ h => h) (.inl ⟨by rfl, fun X hX => ⟨fun _ _ => trivial, .inl ?_⟩⟩) hS ?_
          · go_simp
          simp only [Act.put, List.getElem_toArray, List.getElem_cons_zero, List.getElem_cons_succ, List.setIfInBounds_toArray, List.set_cons_zero, List.set_cons_succ]
          refine anyH_list #[false, true, true, true, true, true, true, false, false, false, false, false, false, false, false] (by kernel_rfl) ?_
          refine anyC_take 7 (v := (.bool true)) rfl (by kernel_rfl) (by kernel_rfl) (by kernel_rfl) (by kernel_rfl) (fun _ _ _ h => h) (.inl ⟨by rfl, fun X hX => ⟨fun _ _ => trivial, .inl ?_⟩⟩) hS ?_
          · go_simp
          simp only [Act.put, List.getElem_toArray, List.getElem_cons_zero, List.getElem_cons_succ, List.setIfInBounds_toArray, List.set_cons_zero, List.set_cons_succ]
          refine anyH_list #[false, true, true, true, true, true, true, true, false, false, false, false, false, false, false] (by kernel_rfl) ?_
          refine anyC_take 8 (v := (.int .u8 (x.toNat : Int))) rfl (by kernel_rfl) (by kernel_rfl) (by kernel_rfl) (by kernel_rfl) (fun _ _ _ h => h) (.inl ⟨by rfl, fun X hX => ⟨fun _ _ => trivial, .inl ?_⟩⟩) hS ?_
          · go_simp
          simp only [Act.put, List.getElem_toArray, List.getElem_cons_zero, List.getElem_cons_succ, List.setIfInBounds_toArray, List.set_cons_zero, List.set_cons_succ]
          refine anyH_list #[false, true, true, true, true, true, true, true, true, false, false, false, false, false, false] (by kernel_rfl) ?_
          refine anyC_take 9 (v := (.int .i64 p)) rfl (by kernel_rfl) (by kernel_rfl) (by kernel_rfl) (by kernel_rfl) (fun _ _ _ h => h) (.inl ⟨by rfl, fun X hX => ⟨fun _ _ => trivial, .inl ?_⟩⟩) hS ?_
          · go_simp
          simp only [Act.put, List.getElem_toArray, List.getElem_cons_zero, List.getElem_cons_succ, List.setIfInBounds_toArray, List.set_cons_zero, List.set_cons_succ]
          refine anyH_list #[false, true, true, true, true, true, true, true, true, true, false, false, false, false, false] (by kernel_rfl) ?_
          refine anyC_take 10 (v := (.bool z2)) rfl (by kernel_rfl) (by kernel_rfl) (by kernel_rfl) (by kernel_rfl) (fun _ _ _ h => h) (.inl ⟨by rfl, fun X hX => ⟨fun _ _ => trivial, .inr ⟨15, #[.int .u8 (x.toNat : Int), .int .i64 p], ?_, (fun h => by cases h), (CallsIn.inRound ll (callsIn_wide.2 (c2 X))).mono (fun _ _ h => ⟨h.1, h.2.symm⟩)⟩⟩⟩) hS ?_
          · go_simp
          simp only [Act.put, List.getElem_toArray, List.getElem_cons_zero, List.getElem_cons_succ, List.setIfInBounds_toArray, List.set_cons_zero, List.set_cons_succ]
          refine anyH_list #[false, true, true, true, true, true, true, true, true, true, true, false, false, false, false] (by kernel_rfl) ?_
          refine anyC_take 11 (v := (.bool z2)) rfl (by kernel_rfl) (by kernel_rfl) (by kernel_rfl) (by kernel_rfl) (fun _ _ _ h => h) (.inl ⟨by rfl, fun X hX => ⟨fun _ _ => trivial, .inl ?_⟩⟩) hS ?_
          · go_simp
          simp only [Act.put, List.getElem_toArray, List.getElem_cons_zero, List.getElem_cons_succ, List.setIfInBounds_toArray, List.set_cons_zero, List.set_cons_succ]
          refine anyH_list #[false, true, true, true, true, true, true, true, true, true, true, true, false, false, false] (by kernel_rfl) ?_
          refine anyC_take 12 (v := (.bool z2)) rfl (by kernel_rfl) (by kernel_rfl) (by kernel_rfl) (by kernel_rfl) (fun _ _ _ h => h) (.inl ⟨by rfl, fun X hX => ⟨fun _ _ => trivial, .inl ?_⟩⟩) hS ?_
          · go_simp
          simp only [Act.put, List.getElem_toArray, List.getElem_cons_zero, List.getElem_cons_succ, List.setIfInBounds_toArray, List.set_cons_zero, List.set_cons_succ]
          refine anyH_list #[false, true, true, true, true, true, true, true, true, true, true, true, true, false, false] (by kernel_rfl) ?_
          refine anyH_one 0 (by kernel_rfl) rfl fun K hK => ?_
          go_simp
          refine hK _ _ hS ?_
          clear hK K
          refine anyH_list #[true, true, true, true, true, true, true, true, true, true, true, true, true, false, false] (by kernel_rfl) ?_
          refine anyH_one 13 (by kernel_rfl) rfl fun K hK => ?_
          go_simp
          refine ⟨trivial, rfl, (CallsIn.inRound ll (callsIn_wide.2 (c3 z2))).mono ?_⟩
          rintro e w3 ⟨v', rfl, hr3, hG⟩
          obtain ⟨nt, hnt⟩ : ∃ nt, canL p pre ++ putL z2 x = nt := ⟨_, rfl⟩
          rw [hnt] at hr3
          have HN := Lib.hid hnt
          clear hnt
          obtain ⟨q3, cc3, rfl, _⟩ := row_open hr3
          obtain ⟨hv1, hv2, hr2, hkk⟩ := grown_keep (S := fun b => RB b ∨ Pv b) hbx (by decide) hrow (fun h => h.elim hRn (hnP _ (by omega))) hvn hr3 hG
          have hS3 := ((hG.1 (fun b => b = w.heap.size) (fun b hb h => by have := (hrow.lt b hb).1; omega)).boxed hbp rfl).cell
          have hS4 := (hkk.boxed hbp (.inl (hRo _ (by omega)))).cell
          have hc1 := hv1.cell
          have hf1 := hv1.frozen
          refine hK _ _ hS3 ?_
          clear hK K
          refine anyH_list #[true, true, true, true, true, true, true, true, true, true, true, true, true, true, false] (by kernel_rfl) ?_
          refine anyH_one 14 (by kernel_rfl) rfl fun K hK => ?_
          go_simp
          refine hK _ _ hS4 ?_
          clear hK K
          refine anyH_done (by kernel_rfl) ?_ _
          clear hS3 hc1 hf1 c1 c2 c3
          gi_wp2
          refine ⟨(hkd _).trans hkk, _, hv2, ?_, fun b hb => hge b hb, fun b hb hp => ?_, hKd.trans (hkk.mono fun b _ h => .inl h)⟩
          · rw [can_one, HC.out, HN.out]; exact hr2
          · rcases hG.2 b hb with h | h
            · exact hnv b h hp
            · have h5 := hPl2 _ hp; omega
        · have HC := Lib.hid (show canB p (x, true) = false by rw [hcb]; rfl)
          clear hcb
          refine anyC_take 1 (v := (.int .u8 (x.toNat : Int))) rfl (by kernel_rfl) (by kernel_rfl) (by kernel_rfl) (by kernel_rfl) (fun _ _ _ h => h) (.inl ⟨by rfl, fun X hX => ⟨fun _ _ => trivial, .inl ?_⟩⟩) hS ?_
          · go_simp
          simp only [Act.put, List.getElem_toArray, List.getElem_cons_zero, List.getElem_cons_succ, List.setIfInBounds_toArray, List.set_cons_zero, List.set_cons_succ]
          refine anyH_list #[false, true, false, false, false, false, false, false, false, false, false, false, false, false, false] (by kernel_rfl) ?_
          refine anyC_take 2 (v := (.int .u8 (x.toNat : Int))) rfl (by kernel_rfl) (by kernel_rfl) (by kernel_rfl) (by kernel_rfl) (fun _ _ _ h => h) (.inl ⟨by rfl, fun X hX => ⟨fun _ _ => trivial, .inl ?_⟩⟩) hS ?_
          · go_simp
          simp only [Act.put, List.getElem_toArray, List.getElem_cons_zero, List.getElem_cons_succ, List.setIfInBounds_toArray, List.set_cons_zero, List.set_cons_succ]
          refine anyH_list #[false, true, true, false, false, false, false, false, false, false, false, false, false, false, false] (by kernel_rfl) ?_
          refine anyC_take 3 (v := (.bool false)) rfl (by kernel_rfl) (by kernel_rfl) (by kernel_rfl) (by kernel_rfl) (fun _ _ _ h => h) (.inl ⟨by rfl, fun X hX => ⟨fun _ _ => trivial, .inr ⟨21, #[.int .u8 (x.toNat : Int)], ?_, (fun h => by cases h), (CallsIn.inRound ll (callsIn_wide.2 (c1 X))).mono (fun _ _ h => ⟨h.1, h.2.symm⟩)⟩⟩⟩) hS ?_
          · go_simp
          simp only [Act.put, List.getElem_toArray, List.getElem_cons_zero, List.getElem_cons_succ, List.setIfInBounds_toArray, List.set_cons_zero, List.set_cons_succ]
          refine anyH_list #[false, true, true, true, false, false, false, false, false, false, false, false, false, false, false] (by kernel_rfl) ?_
          refine anyC_take 4 (v := (.bool false)) rfl (by kernel_rfl) (by kernel_rfl) (by kernel_rfl) (by kernel_rfl) (fun _ _ _ h => h) (.inl ⟨by rfl, fun X hX => ⟨fun _ _ => trivial, .inl ?_⟩⟩) hS ?_
          · go_simp
          simp only [Act.put, List.getElem_toArray, List.getElem_cons_zero, List.getElem_cons_succ, List.setIfInBounds_toArray, List.set_cons_zero, List.set_cons_succ]
          refine anyH_list #[false, true, true, true, true, false, false, false, false, false, false, false, false, false, false] (by kernel_rfl) ?_
          refine anyC_take 5 (v := (.bool true)) rfl (by kernel_rfl) (by kernel_rfl) (by kernel_rfl) (by kernel_rfl) (fun _ _ _ h => h) (.inl ⟨by rfl, fun X hX => ⟨fun _ _ => trivial, .inl ?_⟩⟩) hS ?_
          · go_simp
          simp only [Act.put, List.getElem_toArray, List.getElem_cons_zero, List.getElem_cons_succ, List.setIfInBounds_toArray, List.set_cons_zero, List.set_cons_succ]
          refine anyH_list #[false, true, true, true, true, true, false, false, false, false, false, false, false, false, false] (by kernel_rfl) ?_
          refine anyC_take 6 (v := (.bool false)) rfl (by kernel_rfl) (by kernel_rfl) (by kernel_rfl) (by kernel_rfl) (fun _ _ _ h => h) (.inl ⟨by rfl, fun X hX => ⟨fun _ _ => trivial, .inl ?_⟩⟩) hS ?_
          · go_simp
          simp only [Act.put, List.getElem_toArray, List.getElem_cons_zero, List.getElem_cons_succ, List.setIfInBounds_toArray, List.set_cons_zero, List.set_cons_succ]
          refine anyH_list #[false, true, true, true, true, true, true, false, false, false, false, false, false, false, false] (by kernel_rfl) ?_
          refine anyC_take 7 (v := (.bool false)) rfl (by kernel_rfl) (by kernel_rfl) (by kernel_rfl) (by kernel_rfl) (fun _ _ _ h => h) (.inl ⟨by rfl, fun X hX => ⟨fun _ _ => trivial, .inl ?_⟩⟩) hS ?_
          · go_simp
          simp only [Act.put, List.getElem_toArray, List.getElem_cons_zero, List.getElem_cons_succ, List.setIfInBounds_toArray, List.set_cons_zero, List.set_cons_succ]
          refine anyH_list #[false, true, true, true, true, true, true, true, false, false, false, false, false, false, false] (by kernel_rfl) ?_
          refine anyC_take 8 (v := undef) rfl (by kernel_rfl) (by kernel_rfl) (by kernel_rfl) (by kernel_rfl) (fun _ _ _ h => h) (.inr ⟨by rfl, rfl, fun _ _ _ => trivial⟩) hS ?_
          simp only [Act.put, List.getElem_toArray, List.getElem_cons_zero, List.getElem_cons_succ, List.setIfInBounds_toArray, List.set_cons_zero, List.set_cons_succ]
          refine anyH_list #[false, true, true, true, true, true, true, true, true, false, false, false, false, false, false] (by kernel_rfl) ?_
          refine anyC_take 9 (v := undef) rfl (by kernel_rfl) (by kernel_rfl) (by kernel_rfl) (by kernel_rfl) (fun _ _ _ h => h) (.inr ⟨by rfl, rfl, fun _ _ _ => trivial⟩) hS ?_
          simp only [Act.put, List.getElem_toArray, List.getElem_cons_zero, List.getElem_cons_succ, List.setIfInBounds_toArray, List.set_cons_zero, List.set_cons_succ]
          refine anyH_list #[false, true, true, true, true, true, true, true, true, true, false, false, false, false, false] (by kernel_rfl) ?_
          refine anyC_take 10 (v := undef) rfl (by kernel_rfl) (by kernel_rfl) (by kernel_rfl) (by kernel_rfl) (fun _ _ _ h => h) (.inr ⟨by rfl, rfl, fun _ _ _ => trivial⟩) hS ?_
          simp only [Act.put, List.getElem_toArray, List.getElem_cons_zero, List.getElem_cons_succ, List.setIfInBounds_toArray, List.set_cons_zero, List.set_cons_succ]
          refine anyH_list #[false, true, true, true, true, true, true, true, true, true, true, false, false, false, false] (by kernel_rfl) ?_
          refine anyC_take 11 (v := (.bool false)) rfl (by kernel_rfl) (by kernel_rfl) (by kernel_rfl) (by kernel_rfl) (fun _ _ _ h => h) (.inl ⟨by rfl, fun X hX => ⟨fun _ _ => trivial, .inl ?_⟩⟩) hS ?_
          · go_simp
          simp only [Act.put, List.getElem_toArray, List.getElem_cons_zero, List.getElem_cons_succ, List.setIfInBounds_toArray, List.set_cons_zero, List.set_cons_succ]
          refine anyH_list #[false, true, true, true, true, true, true, true, true, true, true, true, false, false, false] (by kernel_rfl) ?_
          refine anyC_take 12 (v := (.bool false)) rfl (by kernel_rfl) (by kernel_rfl) (by kernel_rfl) (by kernel_rfl) (fun _ _ _ h => h) (.inl ⟨by rfl, fun X hX => ⟨fun _ _ => trivial, .inl ?_⟩⟩) hS ?_
          · go_simp
          simp only [Act.put, List.getElem_toArray, List.getElem_cons_zero, List.getElem_cons_succ, List.setIfInBounds_toArray, List.set_cons_zero, List.set_cons_succ]
          refine anyH_list #[false, true, true, true, true, true, true, true, true, true, true, true, true, false, false] (by kernel_rfl) ?_
          refine anyH_one 0 (by kernel_rfl) rfl fun K hK => ?_
          go_simp
          refine hK _ _ hS ?_
          clear hK K
          refine anyH_list #[true, true, true, true, true, true, true, true, true, true, true, true, true, false, false] (by kernel_rfl) ?_
          refine anyH_one 13 (by kernel_rfl) rfl fun K hK => ?_
          go_simp
          refine ⟨trivial, rfl, (CallsIn.inRound ll (callsIn_wide.2 (c3 false))).mono ?_⟩
          rintro e w3 ⟨v', rfl, hr3, hG⟩
          obtain ⟨nt, hnt⟩ : ∃ nt, canL p pre ++ putL false x = nt := ⟨_, rfl⟩
          rw [hnt] at hr3
          have HN := Lib.hid hnt
          clear hnt
          obtain ⟨q3, cc3, rfl, _⟩ := row_open hr3
          obtain ⟨hv1, hv2, hr2, hkk⟩ := grown_keep (S := fun b => RB b ∨ Pv b) hbx (by decide) hrow (fun h => h.elim hRn (hnP _ (by omega))) hvn hr3 hG
          have hS3 := ((hG.1 (fun b => b = w.heap.size) (fun b hb h => by have := (hrow.lt b hb).1; omega)).boxed hbp rfl).cell
          have hS4 := (hkk.boxed hbp (.inl (hRo _ (by omega)))).cell
          have hc1 := hv1.cell
          have hf1 := hv1.frozen
          refine hK _ _ hS3 ?_
          clear hK K
          refine anyH_list #[true, true, true, true, true, true, true, true, true, true, true, true, true, true, false] (by kernel_rfl) ?_
          refine anyH_one 14 (by kernel_rfl) rfl fun K hK => ?_
          go_simp
          refine hK _ _ hS4 ?_
          clear hK K
          refine anyH_done (by kernel_rfl) ?_ _
          clear hS3 hc1 hf1 c1 c2 c3
          gi_wp2
          refine ⟨(hkd _).trans hkk, _, hv2, ?_, fun b hb => hge b hb, fun b hb hp => ?_, hKd.trans (hkk.mono fun b _ h => .inl h)⟩
          · rw [can_one, HC.out, HN.out]; exact hr2
          · rcases hG.2 b hb with h | h
            · exact hnv b h hp
            · have h5 := hPl2 _ hp; omega
      · have HC := Lib.hid (show canB p (x, cd) = true by rw [hcb]; rfl)
        clear hcb
        refine anyC_take 1 (v := (.int .u8 (x.toNat : Int))) rfl (by kernel_rfl) (by kernel_rfl) (by kernel_rfl) (by kernel_rfl) (fun _ _ _ h => h) (.inl ⟨by rfl, fun X hX => ⟨fun _ _ => trivial, .inl ?_⟩⟩) hS ?_
        · go_simp
        simp only [Act.put, List.getElem_toArray, List.getElem_cons_zero, List.getElem_cons_succ, List.setIfInBounds_toArray, List.set_cons_zero, List.set_cons_succ]
        refine anyH_list #[false, true, false, false, false, false, false, false, false, false, false, false, false, false, false] (by kernel_rfl) ?_
        refine anyC_take 2 (v := (.int .u8 (x.toNat : Int))) rfl (by kernel_rfl) (by kernel_rfl) (by kernel_rfl) (by kernel_rfl) (fun _ _ _ h => h) (.inl ⟨by rfl, fun X hX => ⟨fun _ _ => trivial, .inl ?_⟩⟩) hS ?_
        · go_simp
        simp only [Act.put, List.getElem_toArray, List.getElem_cons_zero, List.getElem_cons_succ, List.setIfInBounds_toArray, List.set_cons_zero, List.set_cons_succ]
        refine anyH_list #[false, true, true, false, false, false, false, false, false, false, false, false, false, false, false] (by kernel_rfl) ?_
        refine anyC_take 3 (v := (.bool true)) rfl (by kernel_rfl) (by kernel_rfl) (by kernel_rfl) (by kernel_rfl) (fun _ _ _ h => h) (.inl ⟨by rfl, fun X hX => ⟨fun _ _ => trivial, .inr ⟨21, #[.int .u8 (x.toNat : Int)], ?_, (fun h => by cases h), (CallsIn.inRound ll (callsIn_wide.2 (c1 X))).mono (fun _ _ h => ⟨h.1, h.2.symm⟩)⟩⟩⟩) hS ?_
        · go_simp
        simp only [Act.put, List.getElem_toArray, List.getElem_cons_zero, List.getElem_cons_succ, List.setIfInBounds_toArray, List.set_cons_zero, List.set_cons_succ]
        refine anyH_list #[false, true, true, true, false, false, false, false, false, false, false, false, false, false, false] (by kernel_rfl) ?_
        refine anyC_take 4 (v := (.bool true)) rfl (by kernel_rfl) (by kernel_rfl) (by kernel_rfl) (by kernel_rfl) (fun _ _ _ h => h) (.inl ⟨by rfl, fun X hX => ⟨fun _ _ => trivial, .inl ?_⟩⟩) hS ?_
        · go_simp
        simp only [Act.put, List.getElem_toArray, List.getElem_cons_zero, List.getElem_cons_succ, List.setIfInBounds_toArray, List.set_cons_zero, List.set_cons_succ]
        refine anyH_list #[false, true, true, true, true, false, false, false, false, false, false, false, false, false, false] (by kernel_rfl) ?_
        refine anyC_take 5 (v := undef) rfl (by kernel_rfl) (by kernel_rfl) (by kernel_rfl) (by kernel_rfl) (fun _ _ _ h => h) (.inr ⟨by rfl, rfl, fun _ _ _ => trivial⟩) hS ?_
        simp only [Act.put, List.getElem_toArray, List.getElem_cons_zero, List.getElem_cons_succ, List.setIfInBounds_toArray, List.set_cons_zero, List.set_cons_succ]
        refine anyH_list #[false, true, true, true, true, true, false, false, false, false, false, false, false, false, false] (by kernel_rfl) ?_
        refine anyC_take 6 (v := undef) rfl (by kernel_rfl) (by kernel_rfl) (by kernel_rfl) (by kernel_rfl) (fun _ _ _ h => h) (.inr ⟨by rfl, rfl, fun _ _ _ => trivial⟩) hS ?_
        simp only [Act.put, List.getElem_toArray, List.getElem_cons_zero, List.getElem_cons_succ, List.setIfInBounds_toArray, List.set_cons_zero, List.set_cons_succ]
        refine anyH_list #[false, true, true, true, true, true, true, false, false, false, false, false, false, false, false] (by kernel_rfl) ?_
        refine anyC_take 7 (v := undef) rfl (by kernel_rfl) (by kernel_rfl) (by kernel_rfl) (by kernel_rfl) (fun _ _ _ h => h) (.inr ⟨by rfl, rfl, fun _ _ _ => trivial⟩) hS ?_
        simp only [Act.put, List.getElem_toArray, List.getElem_cons_zero, List.getElem_cons_succ, List.setIfInBounds_toArray, List.set_cons_zero, List.set_cons_succ]
        refine anyH_list #[false, true, true, true, true, true, true, true, false, false, false, false, false, false, false] (by kernel_rfl) ?_
        refine anyC_take 8 (v := undef) rfl (by kernel_rfl) (by kernel_rfl) (by kernel_rfl) (by kernel_rfl) (fun _ _ _ h => h) (.inr ⟨by rfl, rfl, fun _ _ _ => trivial⟩) hS ?_
        simp only [Act.put, List.getElem_toArray, List.getElem_cons_zero, List.getElem_cons_succ, List.setIfInBounds_toArray, List.set_cons_zero, List.set_cons_succ]
        refine anyH_list #[false, true, true, true, true, true, true, true, true, false, false, false, false, false, false] (by kernel_rfl) ?_
        refine anyC_take 9 (v := undef) rfl (by kernel_rfl) (by kernel_rfl) (by kernel_rfl) (by kernel_rfl) (fun _ _ _ h => h) (.inr ⟨by rfl, rfl, fun _ _ _ => trivial⟩) hS ?_
        simp only [Act.put, List.getElem_toArray, List.getElem_cons_zero, List.getElem_cons_succ, List.setIfInBounds_toArray, List.set_cons_zero, List.set_cons_succ]
        refine anyH_list #[false, true, true, true, true, true, true, true, true, true, false, false, false, false, false] (by kernel_rfl) ?_
        refine anyC_take 10 (v := undef) rfl (by kernel_rfl) (by kernel_rfl) (by kernel_rfl) (by kernel_rfl) (fun _ _ _ h => h) (.inr ⟨by rfl, rfl, fun _ _ _ => trivial⟩) hS ?_
        simp only [Act.put, List.getElem_toArray, List.getElem_cons_zero, List.getElem_cons_succ, List.setIfInBounds_toArray, List.set_cons_zero, List.set_cons_succ]
        refine anyH_list #[false, true, true, true, true, true, true, true, true, true, true, false, false, false, false] (by kernel_rfl) ?_
        refine anyC_take 11 (v := undef) rfl (by kernel_rfl) (by kernel_rfl) (by kernel_rfl) (by kernel_rfl) (fun _ _ _ h => h) (.inr ⟨by rfl, rfl, fun _ _ _ => trivial⟩) hS ?_
        simp only [Act.put, List.getElem_toArray, List.getElem_cons_zero, List.getElem_cons_succ, List.setIfInBounds_toArray, List.set_cons_zero, List.set_cons_succ]
        refine anyH_list #[false, true, true, true, true, true, true, true, true, true, true, true, false, false, false] (by kernel_rfl) ?_
        refine anyC_take 12 (v := (.bool true)) rfl (by kernel_rfl) (by kernel_rfl) (by kernel_rfl) (by kernel_rfl) (fun _ _ _ h => h) (.inl ⟨by rfl, fun X hX => ⟨fun _ _ => trivial, .inl ?_⟩⟩) hS ?_
        · go_simp
        simp only [Act.put, List.getElem_toArray, List.getElem_cons_zero, List.getElem_cons_succ, List.setIfInBounds_toArray, List.set_cons_zero, List.set_cons_succ]
        refine anyH_list #[false, true, true, true, true, true, true, true, true, true, true, true, true, false, false] (by kernel_rfl) ?_
        refine anyH_one 0 (by kernel_rfl) rfl fun K hK => ?_
        go_simp
        refine hK _ _ hS ?_
        clear hK K
        refine anyH_list #[true, true, true, true, true, true, true, true, true, true, true, true, true, false, false] (by kernel_rfl) ?_
        refine anyH_one 13 (by kernel_rfl) rfl fun K hK => ?_
        go_simp
        refine ⟨trivial, rfl, (CallsIn.inRound ll (callsIn_wide.2 (c3 true))).mono ?_⟩
        rintro e w3 ⟨v', rfl, hr3, hG⟩
        obtain ⟨nt, hnt⟩ : ∃ nt, canL p pre ++ putL true x = nt := ⟨_, rfl⟩
        rw [hnt] at hr3
        have HN := Lib.hid hnt
        clear hnt
        obtain ⟨q3, cc3, rfl, _⟩ := row_open hr3
        obtain ⟨hv1, hv2, hr2, hkk⟩ := grown_keep (S := fun b => RB b ∨ Pv b) hbx (by decide) hrow (fun h => h.elim hRn (hnP _ (by omega))) hvn hr3 hG
        have hS3 := ((hG.1 (fun b => b = w.heap.size) (fun b hb h => by have := (hrow.lt b hb).1; omega)).boxed hbp rfl).cell
        have hS4 := (hkk.boxed hbp (.inl (hRo _ (by omega)))).cell
        have hc1 := hv1.cell
        have hf1 := hv1.frozen
        refine hK _ _ hS3 ?_
        clear hK K
        refine anyH_list #[true, true, true, true, true, true, true, true, true, true, true, true, true, true, false] (by kernel_rfl) ?_
        refine anyH_one 14 (by kernel_rfl) rfl fun K hK => ?_
        go_simp
        refine hK _ _ hS4 ?_
        clear hK K
        refine anyH_done (by kernel_rfl) ?_ _
        clear hS3 hc1 hf1 c1 c2 c3
        gi_wp2
        refine ⟨(hkd _).trans hkk, _, hv2, ?_, fun b hb => hge b hb, fun b hb hp => ?_, hKd.trans (hkk.mono fun b _ h => .inl h)⟩
        · rw [can_one, HC.out, HN.out]; exact hr2
        · rcases hG.2 b hb with h | h
          · exact hnv b h hp
          · have h5 := hPl2 _ hp; omega
    case done =>
      rintro D Pv Wd hD hPD hPl ⟨v, hbx, hrow, hge, hnv, hKW⟩ hK
      have cB := hbx.cell
      clear b0 b1 own0 hb0
      gi_wp2
      refine ⟨by simp, .inl ⟨_, _, rfl, run_takeDeferred hK, ?_⟩⟩
      refine ⟨_, results_tmp2 rfl _ _ _, v, 0, rfl, Lib.hid (by rw [HM.out]; rfl), ?_, ?_⟩
      · rw [HM.out]
        exact row_base ((Keep.putObj (S := fun b => ¬ Pv b) Wd D _ (fun h => h hPD)).row hrow hnv) (by omega)
      · exact (((((hkp (fun b => b < w.heap.size)).trans (hk0 _)).trans (hKW.mono fun b _ h => hRo b (by omega)))).trans (Keep.putObj _ _ _ (by omega))).below (Nat.le_refl _)
    case stop =>
      rintro D c pre rest Pv Wd _ _ _ _ h _
      exact h.elim

end Go.Proofs.Ytfhgbokimkmpjaa.Pct
