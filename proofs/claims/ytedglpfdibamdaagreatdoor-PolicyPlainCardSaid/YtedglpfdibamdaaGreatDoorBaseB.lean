/- The texts that these laws rest on, put together, part 2. Conditions: as each says. -/
import Derived.Test.YtedglpfdibamdaaGreatDoorBaseA
import Derived.Lib.OwnBridge
import Derived.Lib.SlBytesConst
import Derived.Lib.SmallJoins
import Derived.Shelf.Spec.SearchS
import Derived.Laws.Cover1
import Derived.Sort.Walk0
import Derived.Lib.IndexMore
import Derived.RecoverIn
import Derived.Lib.AppendZerosOnto
import Derived.Laws.AppendOwn
import Derived.Shelf.Bytes.SlTrimWalks
import Derived.Lib.IndexBytes
import Derived.Deep.LoopGhost
import Derived.Lib.IndexEntry
import Derived.Lib.IndexLaws
import Derived.Laws.RangeString
import Derived.Laws.Runes
import Derived.Lib.ConvBytes
namespace Go.Proofs.YtedglpfdibamdaaGreatDoor
open Go.RowKit Go.Shelf Go.Sort
theorem wpList_append_row {α : Type} {enc : α → Value} {ops : Array Oper} {rest : List Oper} {o : Oper} {a : Act} {w : World} {Q : Exit → Act → World → Prop} (hgd : o.guard = none) (s x : Operand) (t ty : TypeId)
    (ho : o.op = .call { callee := .builtin .append, args := #[s, x], argTypes := #[t, t] }) (i0 : TypeInfo) (z : Value) (bytes : Nat) (ht : Tryz.prog.underlying t = some (.slice ty)) (hi0 : Tryz.prog.info? ty = some i0) (hz0 : i0.zero = some z) (hz1 : i0.size = 1) (hz2 : i0.bytes = bytes) (hz3 : z.cells.size = 1)
    (h1 : ∀ u, (enc u).oneCell' = true) (hby : bytes ≤ 16)
    (base : Nat) (v : Value) (n : Nat) (xs : List Value) (hs : a.eval s = v) (hown : w.ownsRow base ty 1 v n xs) (q : Option Addr) (m c : Nat) (zs : List α) (hx : a.eval x = .slice q m c) (hq : q = none → c = 0)
    (hb : SlIn enc w q m zs) (h47 : n + m ≤ 2199023255552) (hbase : base ≤ w.heap.size)
    (h : ∀ v' w', w'.ownsRow base ty 1 v' (n + m) (xs ++ zs.map enc) → w.grownBy w' v.ownBlock → wpList Tryz.prog ops Q rest (a.put o.dst v') w') : wpList Tryz.prog ops Q (o :: rest) a w := by
  cases q with
  | none =>
    obtain rfl := hq rfl
    have hm : m = 0 := by
      rcases Nat.eq_zero_or_pos m with h0 | h0
      · exact h0
      · obtain ⟨b, o, he, _⟩ := hb.at h0; cases he
    subst hm
    obtain rfl : zs = [] := List.eq_nil_of_length_eq_zero hb.1
    refine wpList_append_own_none hgd s x _ ho base ty i0 1 ht hi0 v n xs hs hown hx (h v w ?_ ⟨rfl, rfl, rfl, Nat.le_refl _, fun _ _ _ => rfl⟩)
    simpa using hown
  | some ad =>
    have hbb : (n + m) * bytes ≤ (n + m) * 16 := Nat.mul_le_mul_left _ hby
    refine wpList_append_own w hgd s x _ ho base ty i0 z 1 bytes ht hi0 hz0 hz1 hz2 hz3 (by decide) v n xs hs hown ad m c (zs.map enc) hx (by simp [hb.1]) (fun j u hj => ?_) (fun u hu => by obtain ⟨y, _, rfl⟩ := List.mem_map.1 hu; exact h1 y) (by unfold maxLen; omega) (by omega) hbase (fun v' w' h1 h2 _ => h v' w' h1 h2)
    rw [List.getElem?_map] at hj
    cases hy : zs[j]? with
    | none => rw [hy] at hj; cases hj
    | some y =>
      rw [hy] at hj
      cases hj
      have hjl : j < zs.length := (List.getElem?_eq_some_iff.1 hy).1
      obtain ⟨b, o, he, _, hcc⟩ := hb.at (by have := hb.1; omega)
      cases he
      rw [Go.WideShapes.add_plain]
      exact hcc j y hy
end Go.Proofs.YtedglpfdibamdaaGreatDoor
namespace Go.Proofs.YtedglpfdibamdaaGreatDoor.Pct
open Go.RowKit Go.Shelf
attribute [local go_sem] Oper.semAt_some
theorem appended_keep {W w1 : World} {n₀ B : Nat} {t e : TypeId} {size : Nat} {v v' : Value} {k m : Nat} {xs ys : List Value} {tmp : Obj} {S : Nat → Prop}
    (hv : Boxed W B t v) (hte : t ≠ e) (hrow : W.ownsRow n₀ e size v k xs) (hS : ¬ S B) (hSo : ∀ b, v.ownBlock = some b → ¬ S b) (hown' : w1.ownsRow n₀ e size v' m ys) (hgrow : (W.alloc tmp).grownBy w1 v.ownBlock) :
    Boxed w1 B t v ∧ Boxed (w1.setCell ⟨B, 0, none⟩ v') B t v' ∧ (w1.setCell ⟨B, 0, none⟩ v').ownsRow n₀ e size v' m ys ∧ Keep S W (w1.setCell ⟨B, 0, none⟩ v') := by
  have hv1 : Boxed w1 B t v := (hv.alloc tmp).kept hgrow (hv.not_row hte hrow)
  exact ⟨hv1, hv1.set v', hown'.kept (grownBy_setCell' w1 B v') (.inr (hv1.not_row hte hown').symm), ((Keep.alloc S W tmp).trans (Keep.of_grownBy hgrow hSo)).trans (Keep.setCell _ _ _ hS)⟩
def CollI (g : List (UInt8 × Bool) → List UInt8) (base Bo : Nat) (RB : Nat → Prop) (W0 : World) (pre : List (UInt8 × Bool)) (Pv : Nat → Prop) (W : World) : Prop :=
  ∃ v, Boxed W Bo 22 v ∧ W.ownsRow base 5 1 v (g pre).length (byV (g pre)) ∧ (∀ b, Pv b → W0.heap.size ≤ b) ∧ (∀ b, v.ownBlock = some b → ¬ Pv b) ∧ Keep RB W0 W
theorem CollI_abide (g : List (UInt8 × Bool) → List UInt8) (base Bo : Nat) (RB : Nat → Prop) (W0 : World) (hBo : Bo < W0.heap.size) (hRB : ∀ b, RB b → b < W0.heap.size) : Abide (CollI g base Bo RB W0) := by
  rintro pre Pv Pv' A B ⟨v, h1, h2, h3, h5, h6⟩ hk hp
  have hs := h6.size
  refine ⟨v, hk.boxed h1 (fun h => by have := h3 _ h; omega), hk.row h2 h5, fun b hb => ?_, fun b hb hp' => ?_, h6.trans (hk.mono fun b _ hb hpb => by have := h3 b hpb; have := hRB b hb; omega)⟩
  · rcases (hp b hb).1 with h | h
    · exact h3 b h
    · omega
  · rcases (hp _ hp').1 with h | h
    · exact h5 b hb h
    · have := (h2.lt b hb).2; omega
def TextPost (o : Option (List UInt8)) (w : World) (e : Ending) (w' : World) : Prop :=
  ∃ v n, e = .returned (.tuple #[v, .int .i64 n]) ∧ Hid (n = if o.isSome then 0 else 2) ∧ w'.ownsRow w.heap.size 5 1 v (o.getD []).length (byV (o.getD [])) ∧ Below w.heap.size w w'
end Go.Proofs.YtedglpfdibamdaaGreatDoor.Pct
namespace Go.Proofs.YtedglpfdibamdaaGreatDoor
open Go.RowKit Go.Shelf
attribute [local go_sem] Oper.semAt_some
end Go.Proofs.YtedglpfdibamdaaGreatDoor
namespace Go.Proofs.YtedglpfdibamdaaGreatDoor.Pct
open Go.RowKit Go.Shelf
attribute [local go_sem] Oper.semAt_some
theorem grown_keep {W w1 : World} {n₀ B : Nat} {t e : TypeId} {size : Nat} {v v' : Value} {k m : Nat} {xs ys : List Value} {S : Nat → Prop}
    (hv : Boxed W B t v) (hte : t ≠ e) (hrow : W.ownsRow n₀ e size v k xs) (hS : ¬ S B) (hSo : ∀ b, v.ownBlock = some b → ¬ S b) (hown' : w1.ownsRow n₀ e size v' m ys) (hG : Grown W v w1 v') :
    Boxed w1 B t v ∧ Boxed (w1.setCell ⟨B, 0, none⟩ v') B t v' ∧ (w1.setCell ⟨B, 0, none⟩ v').ownsRow n₀ e size v' m ys ∧ Keep S W (w1.setCell ⟨B, 0, none⟩ v') := by
  have hv1 : Boxed w1 B t v := (hG.1 (fun b => v.ownBlock ≠ some b) (fun b hb h => h hb)).boxed hv (hv.not_row hte hrow).symm
  exact ⟨hv1, hv1.set v', hown'.kept (grownBy_setCell' w1 B v') (.inr (hv1.not_row hte hown').symm), (hG.1 S hSo).trans (Keep.setCell _ _ _ hS)⟩
theorem can_one (p : Int) (pre : List (UInt8 × Bool)) (x : UInt8) (cd : Bool) : canL p (pre ++ [(x, cd)]) = canL p pre ++ putL (canB p (x, cd)) x := by
  simp [canL]
set_option maxRecDepth 100000 in
set_option maxHeartbeats 4000000 in
theorem Canon_any (q : Option Addr) (n c : Nat) (l : List UInt8) (p : Int) (w : World) (hl : l.length = n) (hn : n ≤ 274877906944) (hb : Lib.BytesIn w q n (Lib.numsL l)) :
    Calls Tryz.prog 151 #[.slice q n c, .int .i64 p] w fun e w' => TextPost ((itemsL l).map (canL p)) w e w' := by
  obtain ⟨i0, hi0, hz0, hz1, hz2⟩ := info_parts info_u8
  obtain ⟨Wp, hWp⟩ : ∃ Wp, w.alloc (.cells #[.int .i64 p] 202) = Wp := ⟨_, rfl⟩
  have hbp : Boxed Wp w.heap.size 202 (.int .i64 p) := by rw [← hWp]; exact Boxed.new w _ _
  have hkp : ∀ S, Keep S w Wp := fun S => by rw [← hWp]; exact Keep.alloc S w _
  have hsp : Wp.heap.size = w.heap.size + 1 := by rw [← hWp]; simp
  have hql := bytes_lt hb
  replace hb := bytes_keep hb (hkp (fun _ => True)) (fun _ _ _ => trivial)
  have con := whole_any q n c l Wp hl (by omega) hb
  have HWp := Lib.hid hWp
  clear hWp
  refine (callsIn_wide (n := 1)).1 ?_
  refine callsIn_of_wp_marks Tryz.func151 rfl trivial ?_ rfl
  simp only [Tryz.ntmps151, List.size_toArray, List.length_cons, List.length_nil, Nat.reduceAdd, Nat.reduceSub, Array.replicate_succ, Array.replicate_zero, List.push_toArray, List.append_toArray, List.nil_append, List.cons_append]
  cases hw : wholeL l with
  | false =>
    have hi := whole_none l hw
    rw [hw] at con
    have HI := Lib.hid hi
    clear hi hw hl hb
    have hBp := (hkp (fun b => b < w.heap.size)).below (Nat.le_refl _)
    clear hsp hkp
    gi_wp2_with fail
    rw [HWp.out]
    refine ⟨trivial, (callsIn_wide.2 con).mono ?_⟩
    rintro e w' ⟨rfl, rfl⟩
    clear con hql
    gi_wp2
    refine ⟨_, results_tmp2 rfl _ _ _, .slice none 0 0, 2, rfl, Lib.hid (by rw [HI.out]; rfl), ?_, hBp⟩
    rw [HI.out]
    exact World.ownsRow_nil _ _ _ _
  | true =>
    obtain ⟨m, hm⟩ := whole_some l hw
    rw [hw] at con
    have hml : m.length ≤ n := by have := items_len l m hm; omega
    obtain ⟨w1, hrun, hown, hgrow⟩ := run_make_own (P := Tryz.prog) (w := Wp) (w.heap.size + 1) 22 5 i0 (.int .u8 0) 1 Tryz.underlying22 hi0 hz0 hz1 .i64 .i64 n (by rw [hz2]; omega) (by unfold maxLen; omega) (by omega)
    have hk1 : ∀ S, Keep S Wp w1 := fun S => Keep.of_grownBy hgrow (fun r h => by cases h)
    have hw1 : w.heap.size + 1 < w1.heap.size := by have := (hown.lt Wp.heap.size rfl).2; omega
    rw [hsp] at hown hrun
    obtain ⟨W1, hW1⟩ : ∃ W1, w1.alloc (.cells #[.slice (some ⟨w.heap.size + 1, 0, none⟩) 0 n] 22) = W1 := ⟨_, rfl⟩
    have hs1 : W1.heap.size = w1.heap.size + 1 := by rw [← hW1]; simp
    have b0 : Boxed (W1.alloc (.cells #[.slice q n c] 22)) w1.heap.size 22 (.slice (some ⟨w.heap.size + 1, 0, none⟩) 0 n) := by rw [← hW1]; exact (Boxed.new w1 _ _).alloc _
    have b1 := Boxed.new W1 22 (.slice q n c)
    have own0 : (W1.alloc (.cells #[.slice q n c] 22)).ownsRow (w.heap.size + 1) 5 1 (.slice (some ⟨w.heap.size + 1, 0, none⟩) 0 n) 0 [] := by rw [← hW1]; exact (hown.alloc _).alloc _
    have hk0 : ∀ S, Keep S Wp (W1.alloc (.cells #[.slice q n c] 22)) := fun S => by rw [← hW1]; exact (hk1 S).trans ((Keep.alloc S w1 _).trans (Keep.alloc S _ _))
    have hs0 : (W1.alloc (.cells #[.slice q n c] 22)).heap.size = w1.heap.size + 2 := by simp; omega
    have con2 := meant_any q n c W1
    have hb0 := bytes_keep hb (hk0 (fun _ => True)) (fun _ _ _ => trivial)
    have HM := Lib.hid hm
    have HL := Lib.hid hl
    have HW1 := Lib.hid hW1
    have HS1 := Lib.hid hs1
    have HS0 := Lib.hid hs0
    have HSP := Lib.hid hsp
    clear hm hw hl hgrow hown hk1 hW1 hs1 hs0 hb hsp
    gi_wp2_with fail
    rw [HWp.out]
    refine ⟨trivial, (callsIn_wide.2 con).mono ?_⟩
    rintro e w' ⟨rfl, rfl⟩
    clear con
    gi_wp2_with fail
    rw [HW1.out]
    refine ⟨trivial, (callsIn_wide.2 con2).mono ?_⟩
    rintro e W0 ⟨rfl, hW0⟩
    rw [← hW0] at b0 b1 own0 hk0 hb0 HS0
    clear con2 hW0 hrun
    gi_wp2
    have hs1 := HS1.out
    have hs0 := HS0.out
    replace hbp := (hk0 (fun _ => True)).boxed hbp trivial
    rw [hs1] at b1
    obtain ⟨RB, hRB⟩ : ∃ RB : Nat → Prop, RB = fun b => b < w.heap.size + 1 ∨ b = w1.heap.size + 1 := ⟨_, rfl⟩
    have hRl : ∀ b, RB b → b < W0.heap.size := fun b hb => by rw [hRB] at hb; rcases hb with h | h <;> omega
    have hRo : ∀ b, b < w.heap.size + 1 → RB b := fun b hb => by rw [hRB]; exact .inl hb
    have hRi : RB (w1.heap.size + 1) := by rw [hRB]; exact .inr rfl
    have hRn : ¬ RB w1.heap.size := fun hb => by rw [hRB] at hb; rcases hb with h | h <;> omega
    have hRr : ∀ b, RB b → w.heap.size + 1 ≤ b → b = w1.heap.size + 1 := fun b hb h => by rw [hRB] at hb; rcases hb with h' | h'; omega; exact h'
    clear hRB
    rw [hs1]
    clear hs1 HS1
    refine rf_law (gf := 208) (lb := #[.pointer (some ⟨w1.heap.size + 1, 0, none⟩)]) rfl (enters_of Tryz.func208 (by kernel_rfl) rfl)
      (meant1_iter (w1.heap.size + 1) q n c l m RB W0 HL.out (by omega) HM.out hb0 (fun a ha h0 => hRo _ (by have := hql a ha h0; omega)) b1 hRi) (Keep.refl _ _) hRl (fun x args G W h => by rw [h.1]; rfl)
      (CollI (canL p) (w.heap.size + 1) w1.heap.size RB W0) (fun _ _ _ _ => False) (CollI_abide _ _ _ _ _ (by omega) hRl) (fun _ _ _ _ _ _ h _ _ => h)
      ⟨_, b0, own0, (fun _ h => h.elim), (fun _ _ h => h), Keep.refl _ _⟩ ?round ?done ?stop
    case round =>
      rintro ll pre ⟨x, cd⟩ rest Pv G args Wr hll hxs ⟨v, hbx, hrow, hge, hnv, hKW⟩ hPl hGl hPb hGP ⟨rfl, rfl⟩
      have hpl : (canL p pre).length ≤ 70368744177664 := by
        have h1 : pre.length + rest.length + 1 = m.length := by rw [hxs]; simp; omega
        have h2 := can_len p pre
        omega
      have hxx := u8_lt x
      clear b0 own0 hb0 hxs
      gi_wp2
      refine ⟨Keep.refl _ _, fun W2 hk2 hs2 r hr => ?_⟩
      have hnP : ∀ b, b < W0.heap.size → ¬ Pv b := fun b hb h => by have := hge b h; omega
      have hk2' : Keep (fun b => ¬ Pv b) Wr W2 := hk2.mono fun b _ hb h => hb (h ▸ hPl)
      replace hbx := hk2'.boxed hbx (hnP _ (by omega))
      replace hrow := hk2'.row hrow hnv
      have hK2 : Keep RB W0 W2 := hKW.trans (hk2'.mono fun b _ hb => hnP b (hRl b hb))
      have hPl2 : ∀ b, Pv b → b < W2.heap.size := fun b hb => by rw [hs2]; exact hPb b hb
      have hvn : ∀ b, v.ownBlock = some b → ¬ (RB b ∨ Pv b) := fun b hb h => by
        rcases h with h | h
        · have h1 := hrow.lt b hb
          have h2 := hRr b h h1.1
          rw [h2] at hb
          exact (hK2.boxed b1 hRi).not_row (by decide) hrow hb.symm
        · exact hnv b hb h
      clear hk2 hk2' hs2 hr hKW
      obtain ⟨Wd, hWd⟩ : ∃ Wd, W2.drew = Wd := ⟨_, rfl⟩
      have hkd : ∀ S, Keep S W2 Wd := fun S => by rw [← hWd]; exact Keep.drew S W2
      replace hbx := (hkd (fun _ => True)).boxed hbx trivial
      replace hrow := (hkd (fun _ => True)).row hrow (fun _ _ => trivial)
      have hKd := hK2.trans (hkd RB)
      replace hPl2 : ∀ b, Pv b → b < Wd.heap.size := fun b hb => by rw [← hWd]; exact hPl2 b hb
      replace hbp := hKd.boxed hbp (hRo _ (by omega))
      have cB := hbx.cell
      have hS := hbp.cell
      have hszW := hKd.size
      have hwW : w.heap.size + 1 ≤ Wd.heap.size := by omega
      have HWd := Lib.hid hWd
      have c1 := isFree_any x
      have c2 := stands_any x p
      have c3 := fun s => appendByte_any (w.heap.size + 1) v (canL p pre) x s Wd hrow hwW hpl
      obtain ⟨z1, H1⟩ : ∃ z, Hid (freeB x = z) := ⟨_, rfl⟩
      obtain ⟨z2, H2⟩ : ∃ z, Hid (standsB p x = z) := ⟨_, rfl⟩
      rw [H1.out] at c1
      rw [H2.out] at c2
      have hcb : canB p (x, cd) = (z1 || (!cd && z2)) := by unfold canB; rw [H1.out, H2.out]
      clear hWd H1 H2
      gi_wp2_with fail
      refine region_any (fun X => X.cell? ⟨w.heap.size, 0, none⟩ = some (.int .i64 p)) (by kernel_rfl) ?_
      rw [HWd.out]
      cases z1
      · cases cd
        · have HC := Lib.hid (show canB p (x, false) = z2 by rw [hcb]; rfl)
          clear hcb
          refine anyC_take 1 (v := (.int .u8 (x.toNat : Int))) rfl (by kernel_rfl) (by kernel_rfl) (by kernel_rfl) (by kernel_rfl) (fun _ _ _ h => h) (.inl ⟨by rfl, fun X hX => ⟨fun _ _ => trivial, .inl ?_⟩⟩) hS ?_
          · go_simp
          simp only [Act.put, List.getElem_toArray, List.getElem_cons_zero, List.getElem_cons_succ, List.setIfInBounds_toArray, List.set_cons_zero, List.set_cons_succ]
          refine anyH_list #[false, true, false, false, false, false, false, false, false, false, false, false, false, false, false] (by kernel_rfl) ?_
          refine anyC_take 2 (v := (.int .u8 (x.toNat : Int))) rfl (by kernel_rfl) (by kernel_rfl) (by kernel_rfl) (by kernel_rfl) (fun _ _ _ h => h) (.inl ⟨by rfl, fun X hX => ⟨fun _ _ => trivial, .inl ?_⟩⟩) hS ?_
          · go_simp
          simp only [Act.put, List.getElem_toArray, List.getElem_cons_zero, List.getElem_cons_succ, List.setIfInBounds_toArray, List.set_cons_zero, List.set_cons_succ]
          refine anyH_list #[false, true, true, false, false, false, false, false, false, false, false, false, false, false, false] (by kernel_rfl) ?_
          refine anyC_take 3 (v := (.bool false)) rfl (by kernel_rfl) (by kernel_rfl) (by kernel_rfl) (by kernel_rfl) (fun _ _ _ h => h) (.inl ⟨by rfl, fun X hX => ⟨fun _ _ => trivial, .inr ⟨188, #[.int .u8 (x.toNat : Int)], ?_, (fun h => by cases h), (CallsIn.inRound ll (callsIn_wide.2 (c1 X))).mono (fun _ _ h => ⟨h.1, h.2.symm⟩)⟩⟩⟩) hS ?_
          · go_simp
          simp only [Act.put, List.getElem_toArray, List.getElem_cons_zero, List.getElem_cons_succ, List.setIfInBounds_toArray, List.set_cons_zero, List.set_cons_succ]
          refine anyH_list #[false, true, true, true, false, false, false, false, false, false, false, false, false, false, false] (by kernel_rfl) ?_
          refine anyC_take 4 (v := (.bool false)) rfl (by kernel_rfl) (by kernel_rfl) (by kernel_rfl) (by kernel_rfl) (fun _ _ _ h => h) (.inl ⟨by rfl, fun X hX => ⟨fun _ _ => trivial, .inl ?_⟩⟩) hS ?_
          · go_simp
          simp only [Act.put, List.getElem_toArray, List.getElem_cons_zero, List.getElem_cons_succ, List.setIfInBounds_toArray, List.set_cons_zero, List.set_cons_succ]
          refine anyH_list #[false, true, true, true, true, false, false, false, false, false, false, false, false, false, false] (by kernel_rfl) ?_
          refine anyC_take 5 (v := (.bool false)) rfl (by kernel_rfl) (by kernel_rfl) (by kernel_rfl) (by kernel_rfl) (fun _ _ _ h => h) (.inl ⟨by rfl, fun X hX => ⟨fun _ _ => trivial, .inl ?_⟩⟩) hS ?_
          · go_simp
          simp only [Act.put, List.getElem_toArray, List.getElem_cons_zero, List.getElem_cons_succ, List.setIfInBounds_toArray, List.set_cons_zero, List.set_cons_succ]
          refine anyH_list #[false, true, true, true, true, true, false, false, false, false, false, false, false, false, false] (by kernel_rfl) ?_
          refine anyC_take 6 (v := (.bool true)) rfl (by kernel_rfl) (by kernel_rfl) (by kernel_rfl) (by kernel_rfl) (fun _ _ _ h => h) (.inl ⟨by rfl, fun X hX => ⟨fun _ _ => trivial, .inl ?_⟩⟩) hS ?_
          · go_simp
          simp only [Act.put, List.getElem_toArray, List.getElem_cons_zero, List.getElem_cons_succ, List.setIfInBounds_toArray, List.set_cons_zero, List.set_cons_succ]
          refine anyH_list #[false, true, true, true, true, true, true, false, false, false, false, false, false, false, false] (by kernel_rfl) ?_
          refine anyC_take 7 (v := (.bool true)) rfl (by kernel_rfl) (by kernel_rfl) (by kernel_rfl) (by kernel_rfl) (fun _ _ _ h => h) (.inl ⟨by rfl, fun X hX => ⟨fun _ _ => trivial, .inl ?_⟩⟩) hS ?_
          · go_simp
          simp only [Act.put, List.getElem_toArray, List.getElem_cons_zero, List.getElem_cons_succ, List.setIfInBounds_toArray, List.set_cons_zero, List.set_cons_succ]
          refine anyH_list #[false, true, true, true, true, true, true, true, false, false, false, false, false, false, false] (by kernel_rfl) ?_
          refine anyC_take 8 (v := (.int .u8 (x.toNat : Int))) rfl (by kernel_rfl) (by kernel_rfl) (by kernel_rfl) (by kernel_rfl) (fun _ _ _ h => h) (.inl ⟨by rfl, fun X hX => ⟨fun _ _ => trivial, .inl ?_⟩⟩) hS ?_
          · go_simp
          simp only [Act.put, List.getElem_toArray, List.getElem_cons_zero, List.getElem_cons_succ, List.setIfInBounds_toArray, List.set_cons_zero, List.set_cons_succ]
          refine anyH_list #[false, true, true, true, true, true, true, true, true, false, false, false, false, false, false] (by kernel_rfl) ?_
          refine anyC_take 9 (v := (.int .i64 p)) rfl (by kernel_rfl) (by kernel_rfl) (by kernel_rfl) (by kernel_rfl) (fun _ _ _ h => h) (.inl ⟨by rfl, fun X hX => ⟨fun _ _ => trivial, .inl ?_⟩⟩) hS ?_
          · go_simp
          simp only [Act.put, List.getElem_toArray, List.getElem_cons_zero, List.getElem_cons_succ, List.setIfInBounds_toArray, List.set_cons_zero, List.set_cons_succ]
          refine anyH_list #[false, true, true, true, true, true, true, true, true, true, false, false, false, false, false] (by kernel_rfl) ?_
          refine anyC_take 10 (v := (.bool z2)) rfl (by kernel_rfl) (by kernel_rfl) (by kernel_rfl) (by kernel_rfl) (fun _ _ _ h => h) (.inl ⟨by rfl, fun X hX => ⟨fun _ _ => trivial, .inr ⟨189, #[.int .u8 (x.toNat : Int), .int .i64 p], ?_, (fun h => by cases h), (CallsIn.inRound ll (callsIn_wide.2 (c2 X))).mono (fun _ _ h => ⟨h.1, h.2.symm⟩)⟩⟩⟩) hS ?_
          · go_simp
          simp only [Act.put, List.getElem_toArray, List.getElem_cons_zero, List.getElem_cons_succ, List.setIfInBounds_toArray, List.set_cons_zero, List.set_cons_succ]
          refine anyH_list #[false, true, true, true, true, true, true, true, true, true, true, false, false, false, false] (by kernel_rfl) ?_
          refine anyC_take 11 (v := (.bool z2)) rfl (by kernel_rfl) (by kernel_rfl) (by kernel_rfl) (by kernel_rfl) (fun _ _ _ h => h) (.inl ⟨by rfl, fun X hX => ⟨fun _ _ => trivial, .inl ?_⟩⟩) hS ?_
          · go_simp
          simp only [Act.put, List.getElem_toArray, List.getElem_cons_zero, List.getElem_cons_succ, List.setIfInBounds_toArray, List.set_cons_zero, List.set_cons_succ]
          refine anyH_list #[false, true, true, true, true, true, true, true, true, true, true, true, false, false, false] (by kernel_rfl) ?_
          refine anyC_take 12 (v := (.bool z2)) rfl (by kernel_rfl) (by kernel_rfl) (by kernel_rfl) (by kernel_rfl) (fun _ _ _ h => h) (.inl ⟨by rfl, fun X hX => ⟨fun _ _ => trivial, .inl ?_⟩⟩) hS ?_
          · go_simp
          simp only [Act.put, List.getElem_toArray, List.getElem_cons_zero, List.getElem_cons_succ, List.setIfInBounds_toArray, List.set_cons_zero, List.set_cons_succ]
          refine anyH_list #[false, true, true, true, true, true, true, true, true, true, true, true, true, false, false] (by kernel_rfl) ?_
          refine anyH_one 0 (by kernel_rfl) rfl fun K hK => ?_
          go_simp
          refine hK _ _ hS ?_
          clear hK K
          refine anyH_list #[true, true, true, true, true, true, true, true, true, true, true, true, true, false, false] (by kernel_rfl) ?_
          refine anyH_one 13 (by kernel_rfl) rfl fun K hK => ?_
          go_simp
          refine ⟨trivial, rfl, (CallsIn.inRound ll (callsIn_wide.2 (c3 z2))).mono ?_⟩
          rintro e w3 ⟨v', rfl, hr3, hG⟩
          obtain ⟨nt, hnt⟩ : ∃ nt, canL p pre ++ putL z2 x = nt := ⟨_, rfl⟩
          rw [hnt] at hr3
          have HN := Lib.hid hnt
          clear hnt
          obtain ⟨q3, cc3, rfl, _⟩ := row_open hr3
          obtain ⟨hv1, hv2, hr2, hkk⟩ := grown_keep (S := fun b => RB b ∨ Pv b) hbx (by decide) hrow (fun h => h.elim hRn (hnP _ (by omega))) hvn hr3 hG
          have hS3 := ((hG.1 (fun b => b = w.heap.size) (fun b hb h => by have := (hrow.lt b hb).1; omega)).boxed hbp rfl).cell
          have hS4 := (hkk.boxed hbp (.inl (hRo _ (by omega)))).cell
          have hc1 := hv1.cell
          have hf1 := hv1.frozen
          refine hK _ _ hS3 ?_
          clear hK K
          refine anyH_list #[true, true, true, true, true, true, true, true, true, true, true, true, true, true, false] (by kernel_rfl) ?_
          refine anyH_one 14 (by kernel_rfl) rfl fun K hK => ?_
          go_simp
          refine hK _ _ hS4 ?_
          clear hK K
          refine anyH_done (by kernel_rfl) ?_ _
          clear hS3 hc1 hf1 c1 c2 c3
          gi_wp2
          refine ⟨(hkd _).trans hkk, _, hv2, ?_, fun b hb => hge b hb, fun b hb hp => ?_, hKd.trans (hkk.mono fun b _ h => .inl h)⟩
          · rw [can_one, HC.out, HN.out]; exact hr2
          · rcases hG.2 b hb with h | h
            · exact hnv b h hp
            · have h5 := hPl2 _ hp; omega
        · have HC := Lib.hid (show canB p (x, true) = false by rw [hcb]; rfl)
          clear hcb
          refine anyC_take 1 (v := (.int .u8 (x.toNat : Int))) rfl (by kernel_rfl) (by kernel_rfl) (by kernel_rfl) (by kernel_rfl) (fun _ _ _ h => h) (.inl ⟨by rfl, fun X hX => ⟨fun _ _ => trivial, .inl ?_⟩⟩) hS ?_
          · go_simp
          simp only [Act.put, List.getElem_toArray, List.getElem_cons_zero, List.getElem_cons_succ, List.setIfInBounds_toArray, List.set_cons_zero, List.set_cons_succ]
          refine anyH_list #[false, true, false, false, false, false, false, false, false, false, false, false, false, false, false] (by kernel_rfl) ?_
          refine anyC_take 2 (v := (.int .u8 (x.toNat : Int))) rfl (by kernel_rfl) (by kernel_rfl) (by kernel_rfl) (by kernel_rfl) (fun _ _ _ h => h) (.inl ⟨by rfl, fun X hX => ⟨fun _ _ => trivial, .inl ?_⟩⟩) hS ?_
          · go_simp
          simp only [Act.put, List.getElem_toArray, List.getElem_cons_zero, List.getElem_cons_succ, List.setIfInBounds_toArray, List.set_cons_zero, List.set_cons_succ]
          refine anyH_list #[false, true, true, false, false, false, false, false, false, false, false, false, false, false, false] (by kernel_rfl) ?_
          refine anyC_take 3 (v := (.bool false)) rfl (by kernel_rfl) (by kernel_rfl) (by kernel_rfl) (by kernel_rfl) (fun _ _ _ h => h) (.inl ⟨by rfl, fun X hX => ⟨fun _ _ => trivial, .inr ⟨188, #[.int .u8 (x.toNat : Int)], ?_, (fun h => by cases h), (CallsIn.inRound ll (callsIn_wide.2 (c1 X))).mono (fun _ _ h => ⟨h.1, h.2.symm⟩)⟩⟩⟩) hS ?_
          · go_simp
          simp only [Act.put, List.getElem_toArray, List.getElem_cons_zero, List.getElem_cons_succ, List.setIfInBounds_toArray, List.set_cons_zero, List.set_cons_succ]
          refine anyH_list #[false, true, true, true, false, false, false, false, false, false, false, false, false, false, false] (by kernel_rfl) ?_
          refine anyC_take 4 (v := (.bool false)) rfl (by kernel_rfl) (by kernel_rfl) (by kernel_rfl) (by kernel_rfl) (fun _ _ _ h => h) (.inl ⟨by rfl, fun X hX => ⟨fun _ _ => trivial, .inl ?_⟩⟩) hS ?_
          · go_simp
          simp only [Act.put, List.getElem_toArray, List.getElem_cons_zero, List.getElem_cons_succ, List.setIfInBounds_toArray, List.set_cons_zero, List.set_cons_succ]
          refine anyH_list #[false, true, true, true, true, false, false, false, false, false, false, false, false, false, false] (by kernel_rfl) ?_
          refine anyC_take 5 (v := (.bool true)) rfl (by kernel_rfl) (by kernel_rfl) (by kernel_rfl) (by kernel_rfl) (fun _ _ _ h => h) (.inl ⟨by rfl, fun X hX => ⟨fun _ _ => trivial, .inl ?_⟩⟩) hS ?_
          · go_simp
          simp only [Act.put, List.getElem_toArray, List.getElem_cons_zero, List.getElem_cons_succ, List.setIfInBounds_toArray, List.set_cons_zero, List.set_cons_succ]
          refine anyH_list #[false, true, true, true, true, true, false, false, false, false, false, false, false, false, false] (by kernel_rfl) ?_
          refine anyC_take 6 (v := (.bool false)) rfl (by kernel_rfl) (by kernel_rfl) (by kernel_rfl) (by kernel_rfl) (fun _ _ _ h => h) (.inl ⟨by rfl, fun X hX => ⟨fun _ _ => trivial, .inl ?_⟩⟩) hS ?_
          · go_simp
          simp only [Act.put, List.getElem_toArray, List.getElem_cons_zero, List.getElem_cons_succ, List.setIfInBounds_toArray, List.set_cons_zero, List.set_cons_succ]
          refine anyH_list #[false, true, true, true, true, true, true, false, false, false, false, false, false, false, false] (by kernel_rfl) ?_
          refine anyC_take 7 (v := (.bool false)) rfl (by kernel_rfl) (by kernel_rfl) (by kernel_rfl) (by kernel_rfl) (fun _ _ _ h => h) (.inl ⟨by rfl, fun X hX => ⟨fun _ _ => trivial, .inl ?_⟩⟩) hS ?_
          · go_simp
          simp only [Act.put, List.getElem_toArray, List.getElem_cons_zero, List.getElem_cons_succ, List.setIfInBounds_toArray, List.set_cons_zero, List.set_cons_succ]
          refine anyH_list #[false, true, true, true, true, true, true, true, false, false, false, false, false, false, false] (by kernel_rfl) ?_
          refine anyC_take 8 (v := undef) rfl (by kernel_rfl) (by kernel_rfl) (by kernel_rfl) (by kernel_rfl) (fun _ _ _ h => h) (.inr ⟨by rfl, rfl, fun _ _ _ => trivial⟩) hS ?_
          simp only [Act.put, List.getElem_toArray, List.getElem_cons_zero, List.getElem_cons_succ, List.setIfInBounds_toArray, List.set_cons_zero, List.set_cons_succ]
          refine anyH_list #[false, true, true, true, true, true, true, true, true, false, false, false, false, false, false] (by kernel_rfl) ?_
          refine anyC_take 9 (v := undef) rfl (by kernel_rfl) (by kernel_rfl) (by kernel_rfl) (by kernel_rfl) (fun _ _ _ h => h) (.inr ⟨by rfl, rfl, fun _ _ _ => trivial⟩) hS ?_
          simp only [Act.put, List.getElem_toArray, List.getElem_cons_zero, List.getElem_cons_succ, List.setIfInBounds_toArray, List.set_cons_zero, List.set_cons_succ]
          refine anyH_list #[false, true, true, true, true, true, true, true, true, true, false, false, false, false, false] (by kernel_rfl) ?_
          refine anyC_take 10 (v := undef) rfl (by kernel_rfl) (by kernel_rfl) (by kernel_rfl) (by kernel_rfl) (fun _ _ _ h => h) (.inr ⟨by rfl, rfl, fun _ _ _ => trivial⟩) hS ?_
          simp only [Act.put, List.getElem_toArray, List.getElem_cons_zero, List.getElem_cons_succ, List.setIfInBounds_toArray, List.set_cons_zero, List.set_cons_succ]
          refine anyH_list #[false, true, true, true, true, true, true, true, true, true, true, false, false, false, false] (by kernel_rfl) ?_
          refine anyC_take 11 (v := (.bool false)) rfl (by kernel_rfl) (by kernel_rfl) (by kernel_rfl) (by kernel_rfl) (fun _ _ _ h => h) (.inl ⟨by rfl, fun X hX => ⟨fun _ _ => trivial, .inl ?_⟩⟩) hS ?_
          · go_simp
          simp only [Act.put, List.getElem_toArray, List.getElem_cons_zero, List.getElem_cons_succ, List.setIfInBounds_toArray, List.set_cons_zero, List.set_cons_succ]
          refine anyH_list #[false, true, true, true, true, true, true, true, true, true, true, true, false, false, false] (by kernel_rfl) ?_
          refine anyC_take 12 (v := (.bool false)) rfl (by kernel_rfl) (by kernel_rfl) (by kernel_rfl) (by kernel_rfl) (fun _ _ _ h => h) (.inl ⟨by rfl, fun X hX => ⟨fun _ _ => trivial, .inl ?_⟩⟩) hS ?_
          · go_simp
          simp only [Act.put, List.getElem_toArray, List.getElem_cons_zero, List.getElem_cons_succ, List.setIfInBounds_toArray, List.set_cons_zero, List.set_cons_succ]
          refine anyH_list #[false, true, true, true, true, true, true, true, true, true, true, true, true, false, false] (by kernel_rfl) ?_
          refine anyH_one 0 (by kernel_rfl) rfl fun K hK => ?_
          go_simp
          refine hK _ _ hS ?_
          clear hK K
          refine anyH_list #[true, true, true, true, true, true, true, true, true, true, true, true, true, false, false] (by kernel_rfl) ?_
          refine anyH_one 13 (by kernel_rfl) rfl fun K hK => ?_
          go_simp
          refine ⟨trivial, rfl, (CallsIn.inRound ll (callsIn_wide.2 (c3 false))).mono ?_⟩
          rintro e w3 ⟨v', rfl, hr3, hG⟩
          obtain ⟨nt, hnt⟩ : ∃ nt, canL p pre ++ putL false x = nt := ⟨_, rfl⟩
          rw [hnt] at hr3
          have HN := Lib.hid hnt
          clear hnt
          obtain ⟨q3, cc3, rfl, _⟩ := row_open hr3
          obtain ⟨hv1, hv2, hr2, hkk⟩ := grown_keep (S := fun b => RB b ∨ Pv b) hbx (by decide) hrow (fun h => h.elim hRn (hnP _ (by omega))) hvn hr3 hG
          have hS3 := ((hG.1 (fun b => b = w.heap.size) (fun b hb h => by have := (hrow.lt b hb).1; omega)).boxed hbp rfl).cell
          have hS4 := (hkk.boxed hbp (.inl (hRo _ (by omega)))).cell
          have hc1 := hv1.cell
          have hf1 := hv1.frozen
          refine hK _ _ hS3 ?_
          clear hK K
          refine anyH_list #[true, true, true, true, true, true, true, true, true, true, true, true, true, true, false] (by kernel_rfl) ?_
          refine anyH_one 14 (by kernel_rfl) rfl fun K hK => ?_
          go_simp
          refine hK _ _ hS4 ?_
          clear hK K
          refine anyH_done (by kernel_rfl) ?_ _
          clear hS3 hc1 hf1 c1 c2 c3
          gi_wp2
          refine ⟨(hkd _).trans hkk, _, hv2, ?_, fun b hb => hge b hb, fun b hb hp => ?_, hKd.trans (hkk.mono fun b _ h => .inl h)⟩
          · rw [can_one, HC.out, HN.out]; exact hr2
          · rcases hG.2 b hb with h | h
            · exact hnv b h hp
            · have h5 := hPl2 _ hp; omega
      · have HC := Lib.hid (show canB p (x, cd) = true by rw [hcb]; rfl)
        clear hcb
        refine anyC_take 1 (v := (.int .u8 (x.toNat : Int))) rfl (by kernel_rfl) (by kernel_rfl) (by kernel_rfl) (by kernel_rfl) (fun _ _ _ h => h) (.inl ⟨by rfl, fun X hX => ⟨fun _ _ => trivial, .inl ?_⟩⟩) hS ?_
        · go_simp
        simp only [Act.put, List.getElem_toArray, List.getElem_cons_zero, List.getElem_cons_succ, List.setIfInBounds_toArray, List.set_cons_zero, List.set_cons_succ]
        refine anyH_list #[false, true, false, false, false, false, false, false, false, false, false, false, false, false, false] (by kernel_rfl) ?_
        refine anyC_take 2 (v := (.int .u8 (x.toNat : Int))) rfl (by kernel_rfl) (by kernel_rfl) (by kernel_rfl) (by kernel_rfl) (fun _ _ _ h => h) (.inl ⟨by rfl, fun X hX => ⟨fun _ _ => trivial, .inl ?_⟩⟩) hS ?_
        · go_simp
        simp only [Act.put, List.getElem_toArray, List.getElem_cons_zero, List.getElem_cons_succ, List.setIfInBounds_toArray, List.set_cons_zero, List.set_cons_succ]
        refine anyH_list #[false, true, true, false, false, false, false, false, false, false, false, false, false, false, false] (by kernel_rfl) ?_
        refine anyC_take 3 (v := (.bool true)) rfl (by kernel_rfl) (by kernel_rfl) (by kernel_rfl) (by kernel_rfl) (fun _ _ _ h => h) (.inl ⟨by rfl, fun X hX => ⟨fun _ _ => trivial, .inr ⟨188, #[.int .u8 (x.toNat : Int)], ?_, (fun h => by cases h), (CallsIn.inRound ll (callsIn_wide.2 (c1 X))).mono (fun _ _ h => ⟨h.1, h.2.symm⟩)⟩⟩⟩) hS ?_
        · go_simp
        simp only [Act.put, List.getElem_toArray, List.getElem_cons_zero, List.getElem_cons_succ, List.setIfInBounds_toArray, List.set_cons_zero, List.set_cons_succ]
        refine anyH_list #[false, true, true, true, false, false, false, false, false, false, false, false, false, false, false] (by kernel_rfl) ?_
        refine anyC_take 4 (v := (.bool true)) rfl (by kernel_rfl) (by kernel_rfl) (by kernel_rfl) (by kernel_rfl) (fun _ _ _ h => h) (.inl ⟨by rfl, fun X hX => ⟨fun _ _ => trivial, .inl ?_⟩⟩) hS ?_
        · go_simp
        simp only [Act.put, List.getElem_toArray, List.getElem_cons_zero, List.getElem_cons_succ, List.setIfInBounds_toArray, List.set_cons_zero, List.set_cons_succ]
        refine anyH_list #[false, true, true, true, true, false, false, false, false, false, false, false, false, false, false] (by kernel_rfl) ?_
        refine anyC_take 5 (v := undef) rfl (by kernel_rfl) (by kernel_rfl) (by kernel_rfl) (by kernel_rfl) (fun _ _ _ h => h) (.inr ⟨by rfl, rfl, fun _ _ _ => trivial⟩) hS ?_
        simp only [Act.put, List.getElem_toArray, List.getElem_cons_zero, List.getElem_cons_succ, List.setIfInBounds_toArray, List.set_cons_zero, List.set_cons_succ]
        refine anyH_list #[false, true, true, true, true, true, false, false, false, false, false, false, false, false, false] (by kernel_rfl) ?_
        refine anyC_take 6 (v := undef) rfl (by kernel_rfl) (by kernel_rfl) (by kernel_rfl) (by kernel_rfl) (fun _ _ _ h => h) (.inr ⟨by rfl, rfl, fun _ _ _ => trivial⟩) hS ?_
        simp only [Act.put, List.getElem_toArray, List.getElem_cons_zero, List.getElem_cons_succ, List.setIfInBounds_toArray, List.set_cons_zero, List.set_cons_succ]
        refine anyH_list #[false, true, true, true, true, true, true, false, false, false, false, false, false, false, false] (by kernel_rfl) ?_
        refine anyC_take 7 (v := undef) rfl (by kernel_rfl) (by kernel_rfl) (by kernel_rfl) (by kernel_rfl) (fun _ _ _ h => h) (.inr ⟨by rfl, rfl, fun _ _ _ => trivial⟩) hS ?_
        simp only [Act.put, List.getElem_toArray, List.getElem_cons_zero, List.getElem_cons_succ, List.setIfInBounds_toArray, List.set_cons_zero, List.set_cons_succ]
        refine anyH_list #[false, true, true, true, true, true, true, true, false, false, false, false, false, false, false] (by kernel_rfl) ?_
        refine anyC_take 8 (v := undef) rfl (by kernel_rfl) (by kernel_rfl) (by kernel_rfl) (by kernel_rfl) (fun _ _ _ h => h) (.inr ⟨by rfl, rfl, fun _ _ _ => trivial⟩) hS ?_
        simp only [Act.put, List.getElem_toArray, List.getElem_cons_zero, List.getElem_cons_succ, List.setIfInBounds_toArray, List.set_cons_zero, List.set_cons_succ]
        refine anyH_list #[false, true, true, true, true, true, true, true, true, false, false, false, false, false, false] (by kernel_rfl) ?_
        refine anyC_take 9 (v := undef) rfl (by kernel_rfl) (by kernel_rfl) (by kernel_rfl) (by kernel_rfl) (fun _ _ _ h => h) (.inr ⟨by rfl, rfl, fun _ _ _ => trivial⟩) hS ?_
        simp only [Act.put, List.getElem_toArray, List.getElem_cons_zero, List.getElem_cons_succ, List.setIfInBounds_toArray, List.set_cons_zero, List.set_cons_succ]
        refine anyH_list #[false, true, true, true, true, true, true, true, true, true, false, false, false, false, false] (by kernel_rfl) ?_
        refine anyC_take 10 (v := undef) rfl (by kernel_rfl) (by kernel_rfl) (by kernel_rfl) (by kernel_rfl) (fun _ _ _ h => h) (.inr ⟨by rfl, rfl, fun _ _ _ => trivial⟩) hS ?_
        simp only [Act.put, List.getElem_toArray, List.getElem_cons_zero, List.getElem_cons_succ, List.setIfInBounds_toArray, List.set_cons_zero, List.set_cons_succ]
        refine anyH_list #[false, true, true, true, true, true, true, true, true, true, true, false, false, false, false] (by kernel_rfl) ?_
        refine anyC_take 11 (v := undef) rfl (by kernel_rfl) (by kernel_rfl) (by kernel_rfl) (by kernel_rfl) (fun _ _ _ h => h) (.inr ⟨by rfl, rfl, fun _ _ _ => trivial⟩) hS ?_
        simp only [Act.put, List.getElem_toArray, List.getElem_cons_zero, List.getElem_cons_succ, List.setIfInBounds_toArray, List.set_cons_zero, List.set_cons_succ]
        refine anyH_list #[false, true, true, true, true, true, true, true, true, true, true, true, false, false, false] (by kernel_rfl) ?_
        refine anyC_take 12 (v := (.bool true)) rfl (by kernel_rfl) (by kernel_rfl) (by kernel_rfl) (by kernel_rfl) (fun _ _ _ h => h) (.inl ⟨by rfl, fun X hX => ⟨fun _ _ => trivial, .inl ?_⟩⟩) hS ?_
        · go_simp
        simp only [Act.put, List.getElem_toArray, List.getElem_cons_zero, List.getElem_cons_succ, List.setIfInBounds_toArray, List.set_cons_zero, List.set_cons_succ]
        refine anyH_list #[false, true, true, true, true, true, true, true, true, true, true, true, true, false, false] (by kernel_rfl) ?_
        refine anyH_one 0 (by kernel_rfl) rfl fun K hK => ?_
        go_simp
        refine hK _ _ hS ?_
        clear hK K
        refine anyH_list #[true, true, true, true, true, true, true, true, true, true, true, true, true, false, false] (by kernel_rfl) ?_
        refine anyH_one 13 (by kernel_rfl) rfl fun K hK => ?_
        go_simp
        refine ⟨trivial, rfl, (CallsIn.inRound ll (callsIn_wide.2 (c3 true))).mono ?_⟩
        rintro e w3 ⟨v', rfl, hr3, hG⟩
        obtain ⟨nt, hnt⟩ : ∃ nt, canL p pre ++ putL true x = nt := ⟨_, rfl⟩
        rw [hnt] at hr3
        have HN := Lib.hid hnt
        clear hnt
        obtain ⟨q3, cc3, rfl, _⟩ := row_open hr3
        obtain ⟨hv1, hv2, hr2, hkk⟩ := grown_keep (S := fun b => RB b ∨ Pv b) hbx (by decide) hrow (fun h => h.elim hRn (hnP _ (by omega))) hvn hr3 hG
        have hS3 := ((hG.1 (fun b => b = w.heap.size) (fun b hb h => by have := (hrow.lt b hb).1; omega)).boxed hbp rfl).cell
        have hS4 := (hkk.boxed hbp (.inl (hRo _ (by omega)))).cell
        have hc1 := hv1.cell
        have hf1 := hv1.frozen
        refine hK _ _ hS3 ?_
        clear hK K
        refine anyH_list #[true, true, true, true, true, true, true, true, true, true, true, true, true, true, false] (by kernel_rfl) ?_
        refine anyH_one 14 (by kernel_rfl) rfl fun K hK => ?_
        go_simp
        refine hK _ _ hS4 ?_
        clear hK K
        refine anyH_done (by kernel_rfl) ?_ _
        clear hS3 hc1 hf1 c1 c2 c3
        gi_wp2
        refine ⟨(hkd _).trans hkk, _, hv2, ?_, fun b hb => hge b hb, fun b hb hp => ?_, hKd.trans (hkk.mono fun b _ h => .inl h)⟩
        · rw [can_one, HC.out, HN.out]; exact hr2
        · rcases hG.2 b hb with h | h
          · exact hnv b h hp
          · have h5 := hPl2 _ hp; omega
    case done =>
      rintro D Pv Wd hD hPD hPl ⟨v, hbx, hrow, hge, hnv, hKW⟩ hK
      have cB := hbx.cell
      clear b0 b1 own0 hb0
      gi_wp2
      refine ⟨by simp, .inl ⟨_, _, rfl, run_takeDeferred hK, ?_⟩⟩
      refine ⟨_, results_tmp2 rfl _ _ _, v, 0, rfl, Lib.hid (by rw [HM.out]; rfl), ?_, ?_⟩
      · rw [HM.out]
        exact row_base ((Keep.putObj (S := fun b => ¬ Pv b) Wd D _ (fun h => h hPD)).row hrow hnv) (by omega)
      · exact (((((hkp (fun b => b < w.heap.size)).trans (hk0 _)).trans (hKW.mono fun b _ h => hRo b (by omega)))).trans (Keep.putObj _ _ _ (by omega))).below (Nat.le_refl _)
    case stop =>
      rintro D c pre rest Pv Wd _ _ _ _ h _
      exact h.elim
end Go.Proofs.YtedglpfdibamdaaGreatDoor.Pct
namespace Go.Proofs.YtedglpfdibamdaaGreatDoor.Cls
open Url Org
set_option linter.unusedVariables false
def prinB (t : List UInt8) : Bool := match parseQ 9223372036854775807 t with
  | .inr x => decide (textO x = t)
  | .inl _ => false
theorem prin_text (t : List UInt8) (h : prinB t = true) : (∃ n : Nat, 1 ≤ n ∧ n ≤ 9223372036854775807 ∧ t = closedS ++ digL n) ∨ ∃ u, Ok u ∧ t = placeU u := by
  unfold prinB at h
  split at h
  · rename_i x hx
    have ht := (of_decide_eq_true h).symm
    rcases Q_in _ t x hx with ⟨n, rfl, h1, h2⟩ | ⟨u, rfl, hu⟩
    · exact .inl ⟨n, h1, h2, ht⟩
    · exact .inr ⟨u, parse_ok t u hu, ht⟩
  · cases h
theorem prin_no (t : List UInt8) (h : prinB t = true) (d : UInt8) (h1 : Host.hostByte d = false) (h2 : d ≠ 46) (h3 : Ref.decB d = false) (h4 : d ≠ 58) (h5 : d ≠ 47) (h6 : d ∉ closedS) (h7 : d ∉ httpsS) : d ∉ t := by
  rcases prin_text t h with ⟨n, _, _, rfl⟩ | ⟨u, hu, rfl⟩
  · rw [List.mem_append, not_or]
    refine ⟨h6, fun hd => ?_⟩
    rw [dig_dec n d hd] at h3; cases h3
  · have h8 : d ∉ u.scheme := by
      rcases hu.scheme with hs | hs <;> rw [hs]
      · intro hd
        apply h7
        unfold httpS at hd; unfold httpsS
        simp only [List.mem_cons, List.not_mem_nil, or_false] at hd ⊢
        rcases hd with hd | hd | hd | hd <;> simp [hd]
      · exact h7
    have := name_no u hu d h1 h2 h3 h4
    rw [List.mem_append, not_or] at this
    unfold placeU
    simp only [List.mem_append, not_or]
    exact ⟨⟨⟨h8, by simp [h4, h5]⟩, this.1⟩, this.2⟩
theorem prin_colon (t : List UInt8) (h : prinB t = true) : (58 : UInt8) ∈ t := by
  rcases prin_text t h with ⟨n, _, _, rfl⟩ | ⟨u, hu, rfl⟩
  · simp [closedS]
  · unfold placeU; simp
def blankB (b : UInt8) : Bool := b == 32 || b == 9
def trimB (l : List UInt8) : List UInt8 := ((l.dropWhile blankB).reverse.dropWhile blankB).reverse
structure Part (p : List UInt8) : Prop where
  ne : p ≠ []
  bar : (124 : UInt8) ∉ p
  blank : ∀ b ∈ p, blankB b = false
  colon : (58 : UInt8) ∈ p
theorem prin_part (t : List UInt8) (h : prinB t = true) : Part t := by
  have hc := prin_colon t h
  refine ⟨fun e => (by rw [e] at hc; cases hc), prin_no t h 124 (by decide) (by decide) (by decide) (by decide) (by decide) (by decide) (by decide), fun b hb => ?_, hc⟩
  have n1 := prin_no t h 32 (by decide) (by decide) (by decide) (by decide) (by decide) (by decide) (by decide)
  have n2 := prin_no t h 9 (by decide) (by decide) (by decide) (by decide) (by decide) (by decide) (by decide)
  have d1 : b ≠ 32 := fun e => n1 (e ▸ hb)
  have d2 : b ≠ 9 := fun e => n2 (e ▸ hb)
  unfold blankB; simp [d1, d2]
def neverS : List UInt8 := [110, 101, 118, 101, 114]
end Go.Proofs.YtedglpfdibamdaaGreatDoor.Cls
namespace Go.Proofs.YtedglpfdibamdaaGreatDoor
open Go.RowKit Go.Shelf Go.Sort
theorem SlIn.ne_box {α : Type} {enc : α → Value} {w : World} {q : Option Addr} {n : Nat} {xs : List α} {B : Nat} {t : TypeId} {v : Value} (h : SlIn enc w q n xs) (hB : Boxed w B t v) (hv : ∀ x, enc x ≠ v) : ∀ a, q = some a → 0 < n → a.block ≠ B := by
  rintro a rfl hn rfl
  obtain ⟨b, o, he, _, hc⟩ := h.at hn
  cases he
  cases xs with
  | nil => have := h.1; simp at this; omega
  | cons x xs =>
    have h1 := hc 0 x rfl
    have h2 : w.heap[b]? = some (.cells #[v] t) := hB
    simp only [World.cell?, h2] at h1
    by_cases ho : o + 0 = 0
    · rw [ho] at h1; simp at h1; exact hv x h1.symm
    · simp at h1; rw [List.getElem?_eq_none (by simp; omega)] at h1; cases h1
theorem SetIs.set {α : Type} [LT α] {enc : α → Value} {w : World} {v : Value} {xs : List α} {B : Nat} {t : TypeId} {u u' : Value} (h : SetIs enc w v xs) (hB : Boxed w B t u) (hv : ∀ x, enc x ≠ u) : SetIs enc (w.setCell ⟨B, 0, none⟩ u') v xs := by
  obtain ⟨q, n, c, rfl, h1, h2, h3, h4⟩ := h
  exact ⟨q, n, c, rfl, h1, h2, h3.keep (Keep.setCell (S := fun b => b ≠ B) _ _ _ (by simp)) (h3.ne_box hB hv), h4⟩
end Go.Proofs.YtedglpfdibamdaaGreatDoor
namespace Go.Proofs.YtedglpfdibamdaaGreatDoor
open Go.RowKit Go.Shelf
theorem bytes_lit {w : World} (cs : Array Value) (l : List UInt8) (fr : Nat × Nat) (h : cs.toList = (Lib.numsL l).map (Value.int .u8)) : Lib.BytesIn (w.alloc (.cells cs 5 fr)) (some ⟨w.heap.size, 0, none⟩) l.length (Lib.numsL l) := fun _ =>
  ⟨_, _, rfl, fun i hi => by
    have hi' : i < (Lib.numsL l).length := by rw [Lib.numsL_length]; exact hi
    rw [Nat.zero_add, World.cell?_alloc_mark, ← Array.getElem?_toList, h]
    simp [List.getElem?_eq_getElem hi', List.getD]⟩
end Go.Proofs.YtedglpfdibamdaaGreatDoor
namespace Go.Proofs.YtedglpfdibamdaaGreatDoor
open Go.RowKit Go.Shelf
def piecesOf (l : List UInt8) (xs : List (Nat × Nat)) : List (List UInt8) := xs.map fun x => sub l x.1 x.2
theorem sub_snoc (l : List UInt8) (f k : Nat) (hf : f ≤ k) (hk : k < l.length) : sub l f (k + 1) = sub l f k ++ [l.getD k 0] := by
  unfold sub
  rw [show k + 1 - f = (k - f) + 1 from by omega, List.take_succ_eq_append_getElem (by simp; omega)]
  simp [List.getD, List.getElem?_eq_getElem hk]
  congr 1
  omega
theorem sub_nil (l : List UInt8) (k : Nat) : sub l k k = [] := by unfold sub; simp
end Go.Proofs.YtedglpfdibamdaaGreatDoor
namespace Go.Proofs.YtedglpfdibamdaaGreatDoor
open Go.RowKit Go.Shelf
attribute [local go_sem] Oper.semAt_some
def SubI {α : Type} (T : TypeId) (Bo : Nat) (RB : Nat → Prop) (W0 : World) (pre : List (Nat × α)) (Pv : Nat → Prop) (W : World) : Prop :=
  Boxed W Bo T (.bool false) ∧ (∀ b, Pv b → W0.heap.size ≤ b) ∧ Keep RB W0 W ∧ (pre.any fun p => p.1 == 1) = false
def SubX {α : Type} (T : TypeId) (Bo : Nat) (RB : Nat → Prop) (W0 : World) (c : Code) (pre : List (Nat × α)) (Pv : Nat → Prop) (W : World) : Prop :=
  c = .ret ∧ Boxed W Bo T (.bool false) ∧ (∀ b, Pv b → W0.heap.size ≤ b) ∧ Keep RB W0 W ∧ (pre.any fun p => p.1 == 1) = true
theorem SubI_abide {α : Type} (T : TypeId) (Bo : Nat) (RB : Nat → Prop) (W0 : World) (hBo : Bo < W0.heap.size) (hRB : ∀ b, RB b → b < W0.heap.size) : Abide (SubI (α := α) T Bo RB W0) := by
  rintro pre Pv Pv' A B ⟨h1, h3, h6, h7⟩ hk hp
  have hs := h6.size
  refine ⟨hk.boxed h1 (fun h => by have := h3 _ h; omega), fun b hb => ?_, h6.trans (hk.mono fun b _ hb hpb => by have := h3 b hpb; have := hRB b hb; omega), h7⟩
  rcases (hp b hb).1 with h | h
  · exact h3 b h
  · omega
theorem SubX_abide {α : Type} (T : TypeId) (Bo : Nat) (RB : Nat → Prop) (W0 : World) (hBo : Bo < W0.heap.size) (hRB : ∀ b, RB b → b < W0.heap.size) (c : Code) : Abide (SubX (α := α) T Bo RB W0 c) := by
  rintro pre Pv Pv' A B ⟨h0, h1, h3, h6, h7⟩ hk hp
  have hs := h6.size
  refine ⟨h0, hk.boxed h1 (fun h => by have := h3 _ h; omega), fun b hb => ?_, h6.trans (hk.mono fun b _ hb hpb => by have := h3 b hpb; have := hRB b hb; omega), h7⟩
  rcases (hp b hb).1 with h | h
  · exact h3 b h
  · omega
end Go.Proofs.YtedglpfdibamdaaGreatDoor
namespace Go.Proofs.YtedglpfdibamdaaGreatDoor.Cls
open Url Org Frm
set_option linter.unusedVariables false
def ofC (l : List (List UInt8)) : Sum Int (List (List UInt8)) := if l.all prinB = true then (if (sortR l).length ≤ 16 then .inr (sortR l) else .inl 3) else .inl 2
def parseC (t : List UInt8) : Sum Int (List (List UInt8)) := if 4096 < t.length then .inl 3 else if trimB t = neverS then .inr [] else ofC ((Ref.splitL 124 t).map trimB)
structure COk (c : List (List UInt8)) : Prop where
  rise : Rises c
  prin : ∀ p ∈ c, prinB p = true
  few : c.length ≤ 16
theorem of_ok (l c : List (List UInt8)) (h : ofC l = .inr c) : COk c ∧ ∀ p, p ∈ c ↔ p ∈ l := by
  unfold ofC at h
  split at h
  · rename_i hp
    split at h
    · rename_i hf
      cases h
      exact ⟨⟨sort_rises l, fun p hp2 => List.all_eq_true.1 hp p ((mem_sort p l).1 hp2), hf⟩, fun p => mem_sort p l⟩
    · cases h
  · cases h
theorem never_ok : COk [] := ⟨Rises.nil, fun p hp => (by cases hp), by decide⟩
theorem parseC_ok (t : List UInt8) (c : List (List UInt8)) (h : parseC t = .inr c) : COk c := by
  unfold parseC at h
  split at h
  · cases h
  · split at h
    · cases h; exact never_ok
    · exact (of_ok _ c h).1
def alwaysS : List UInt8 := [97, 108, 119, 97, 121, 115]
def clausesL : List (List UInt8) → Sum Int (List (List (List UInt8)))
  | [] => .inr []
  | p :: r => match parseC p with
    | .inl e => .inl e
    | .inr c => match clausesL r with
      | .inl e => .inl e
      | .inr l => .inr (c :: l)
def ofF (l : List (List (List UInt8))) : Sum Int (List (List (List UInt8))) := if (redL l).length ≤ 16 then .inr (redL l) else .inl 3
def parseF (t : List UInt8) : Sum Int (List (List (List UInt8))) := if 4096 < t.length then .inl 3 else if trimB t = alwaysS then .inr [] else match clausesL (Ref.splitL 38 t) with
  | .inl e => .inl e
  | .inr l => ofF l
structure FOk (f : List (List (List UInt8))) : Prop where
  canon : Canon f
  each : ∀ c ∈ f, COk c
  few : f.length ≤ 16
theorem clauses_ok : ∀ (l : List (List UInt8)) (r : List (List (List UInt8))), clausesL l = .inr r → ∀ c ∈ r, COk c
  | [], r, h, c, hc => by cases h; cases hc
  | p :: l, r, h, c, hc => by
    unfold clausesL at h
    split at h
    · cases h
    · rename_i x hx
      split at h
      · cases h
      · rename_i y hy
        cases h
        rcases List.mem_cons.1 hc with rfl | hc
        · exact parseC_ok p _ hx
        · exact clauses_ok l y hy c hc
theorem ofF_ok (l f : List (List (List UInt8))) (hl : ∀ c ∈ l, COk c) (h : ofF l = .inr f) : FOk f ∧ f = redL l := by
  unfold ofF at h
  split at h
  · rename_i hf
    cases h
    exact ⟨⟨red_canon l fun c hc => (hl c hc).rise, fun c hc => hl c ((mem_red l c).1 hc).1, hf⟩, rfl⟩
  · cases h
theorem ofF_self (f : List (List (List UInt8))) (h : FOk f) : ofF f = .inr f := by
  unfold ofF
  rw [red_same f h.canon, if_pos h.few]
theorem always_ok : FOk [] := ⟨always_canon, fun c hc => (by cases hc), by decide⟩
theorem neverF_ok : FOk [[]] := ⟨never_canon, fun c hc => (by rw [List.mem_singleton.1 hc]; exact never_ok), by decide⟩
theorem parseF_ok (t : List UInt8) (f : List (List (List UInt8))) (h : parseF t = .inr f) : FOk f := by
  unfold parseF at h
  split at h
  · cases h
  · split at h
    · cases h; exact always_ok
    · split at h
      · cases h
      · rename_i l hl
        exact (ofF_ok l f (clauses_ok _ l hl) h).1
def parseL (t : List UInt8) : Sum Int Lab := if 4096 < t.length then .inl 3 else match Ref.splitL 59 t with
  | [s] => match parseF s with
    | .inl e => .inl e
    | .inr f => .inr ⟨f, []⟩
  | [s, i] => match parseF s with
    | .inl e => .inl e
    | .inr f => match parseF i with
      | .inl e => .inl e
      | .inr g => .inr ⟨f, g⟩
  | _ => .inl 2
end Go.Proofs.YtedglpfdibamdaaGreatDoor.Cls
namespace Go.Proofs.YtedglpfdibamdaaGreatDoor
open Go.RowKit Go.Shelf
attribute [local go_sem] Oper.semAt_some
end Go.Proofs.YtedglpfdibamdaaGreatDoor
namespace Go.Proofs.YtedglpfdibamdaaGreatDoor
open Go.RowKit Go.Shelf
attribute [local go_sem] Oper.semAt_some
end Go.Proofs.YtedglpfdibamdaaGreatDoor
namespace Go.Proofs.YtedglpfdibamdaaGreatDoor
open Go.RowKit Go.Shelf
theorem splitOf_len (l : List UInt8) (xs : List (Nat × Nat)) : (splitOf l xs).length = xs.length := by simp [splitOf]
theorem splitX_num (c : UInt8) (l : List UInt8) (pre : List (Nat × List UInt8)) (x : Nat × List UInt8) (rest : List (Nat × List UInt8)) (h : splitX c l = pre ++ x :: rest) : x.1 = pre.length := by
  have h1 : (splitX c l)[pre.length]? = some x := by rw [h]; simp
  unfold splitX splitOf at h1
  rw [List.getElem?_map, List.getElem?_zipIdx] at h1
  cases hx : (spansL (isB c) l)[pre.length]? with
  | none => rw [hx] at h1; simp at h1
  | some y => rw [hx] at h1; simp at h1; rw [← h1]
theorem splitX_small (c : UInt8) (l : List UInt8) (n : Nat) (h : l.length = n) : ∀ x ∈ splitX c l, x.2.length ≤ n := by
  intro x hx
  unfold splitX splitOf at hx
  obtain ⟨y, hy, rfl⟩ := List.mem_map.1 hx
  have hb := spansL_bounds (isB c) l y.1 (List.fst_mem_of_mem_zipIdx hy)
  simp only
  rw [sub_length _ _ _ hb.2]
  omega
theorem splitX_len (c : UInt8) (l : List UInt8) : (splitX c l).length ≤ l.length + 1 := by
  unfold splitX
  rw [splitOf_len]
  exact spansGo_len _ _ _ _
theorem Split_iter {w w' : World} {B n : Nat} {c : UInt8} {v' : Value} {l : List UInt8} (hn : n ≤ 140737488355328) (hB : Boxed w' B 22 v') (hBc : Boxed w' w.heap.size 5 (.int .u8 (c.toNat : Int))) (hrow : w'.ownsRow (w.heap.size + 1) 5 1 v' n ((Lib.numsL l).map (Value.int .u8))) :
    IterC Tryz.prog 119 #[.pointer (some ⟨B, 0, none⟩), .pointer (some ⟨w.heap.size, 0, none⟩)] NumRowArg (splitX c l) (fun b => b = B ∨ b = w.heap.size ∨ v'.ownBlock = some b) w' := by
  obtain ⟨q, cc, rfl, hl, hnc, _, hbs, hblk⟩ := row_open hrow
  exact Split1_iter B w.heap.size c q n cc l _ w' hl hn hnc hbs (fun a ha _ => .inr (.inr (hblk a ha).2.2)) hB (.inl rfl) hBc (.inr (.inl rfl)) (fun b hb => by
    rcases hb with rfl | rfl | hb
    · exact hB.lt
    · exact hBc.lt
    · exact (hrow.lt b hb).2)
theorem info_u8 : (Tryz.prog.info? 5).map (fun i => (i.zero, i.size, i.bytes)) = some (some (.int .u8 0), 1, 1) := by kernel_rfl
theorem wpList_append_bytes {ops : Array Oper} {rest : List Oper} {o : Oper} {a : Act} {w : World} {Q : Exit → Act → World → Prop} (hgd : o.guard = none) (s x : Operand)
    (ho : o.op = .call { callee := .builtin .append, args := #[s, x], argTypes := #[22, 22] })
    (base : Nat) (v : Value) (n : Nat) (xs : List Value) (hs : a.eval s = v) (hown : w.ownsRow base 5 1 v n xs) (p : Option Addr) (m c : Nat) (bs : List UInt8) (hx : a.eval x = .slice p m c) (hp : p = none → m = 0 ∧ c = 0)
    (hl : bs.length = m) (hb : Lib.BytesIn w p m (Lib.numsL bs)) (h47 : n + m ≤ 140737488355328) (hbase : base ≤ w.heap.size)
    (h : ∀ v' w', w'.ownsRow base 5 1 v' (n + m) (xs ++ (Lib.numsL bs).map (Value.int .u8)) → w.grownBy w' v.ownBlock → wpList Tryz.prog ops Q rest (a.put o.dst v') w') : wpList Tryz.prog ops Q (o :: rest) a w := by
  obtain ⟨i0, hi0, hz0, hz1, hz2⟩ := info_parts info_u8
  cases p with
  | none =>
    obtain ⟨rfl, rfl⟩ := hp rfl
    obtain rfl : bs = [] := List.eq_nil_of_length_eq_zero hl
    refine wpList_append_own_none hgd s x _ ho base 5 i0 1 Tryz.underlying22 hi0 v n xs hs hown hx (h v w ?_ ⟨rfl, rfl, rfl, Nat.le_refl _, fun _ _ _ => rfl⟩)
    simpa [Lib.numsL] using hown
  | some ad =>
    refine wpList_append_own w hgd s x _ ho base 5 i0 (.int .u8 0) 1 1 Tryz.underlying22 hi0 hz0 hz1 hz2 rfl (by decide) v n xs hs hown ad m c ((Lib.numsL bs).map (Value.int .u8)) hx (by simp [Lib.numsL, hl]) (fun j u hj => ?_) (by simp [Lib.numsL, Value.oneCell']) (by unfold maxLen; omega) (by omega) hbase (fun v' w' h1 h2 _ => h v' w' h1 h2)
    rcases Nat.lt_or_ge j m with h' | h'
    · obtain ⟨b, o, he, hcc⟩ := hb.at (by omega)
      cases he
      have hj' : j < (Lib.numsL bs).length := by rw [Lib.numsL_length]; omega
      rw [Go.WideShapes.add_plain, hcc j h']
      rw [List.getElem?_map, List.getElem?_eq_getElem hj'] at hj
      simp only [Option.map_some, Option.some.injEq] at hj
      rw [← hj, List.getD, List.getElem?_eq_getElem hj']
      rfl
    · rw [List.getElem?_eq_none (by rw [List.length_map, Lib.numsL_length]; omega)] at hj
      cases hj
end Go.Proofs.YtedglpfdibamdaaGreatDoor
namespace Go.Proofs.YtedglpfdibamdaaGreatDoor
open Go.RowKit Go.Shelf
def lowL (l : List UInt8) : List UInt8 := l.map low
theorem lowL_length (l : List UInt8) : (lowL l).length = l.length := by simp [lowL]
theorem lowL_getD (l : List UInt8) (k : Nat) (h : k < l.length) : (lowL l).getD k 0 = low (l.getD k 0) := by simp [lowL, List.getD, List.getElem?_eq_getElem h]
set_option maxRecDepth 100000 in
set_option maxHeartbeats 2000000 in
theorem Lower_any (q : Option Addr) (n c : Nat) (l : List UInt8) (w : World) (hl : l.length = n) (hn : n ≤ 140737488355328) (hb : Lib.BytesIn w q n (Lib.numsL l)) :
    Calls Tryz.prog 139 #[.slice q n c] w fun e w' => ∃ v', e = .returned v' ∧ w'.ownsRow w.heap.size 5 1 v' n ((Lib.numsL (lowL l)).map (Value.int .u8)) ∧ Below w.heap.size w w' := by
  obtain ⟨i0, hi0, hz0, hz1, hz2⟩ := info_parts info_u8
  have HL := Lib.hid hl
  clear hl
  go_enter Tryz.func139, Tryz.ntmps139
  go_wp2_with (at_make; refine wpList_make_full _ rfl _ _ 22 rfl w.heap.size 5 i0 (.int .u8 0) 1 Tryz.underlying22 hi0 hz0 hz1 .i64 .i64 _ _ n rfl rfl rfl rfl (by rw [hz2]; omega) (by unfold maxLen; omega) (Nat.le_refl _) ?_; intro w1 hown hgrow)
  have hbel : Below w.heap.size w w1 := (Below.refl _ _).grown hgrow (Nat.le_refl _) (fun _ h => by cases h)
  obtain ⟨cur0, hg0, hs0⟩ : ∃ cur, w1.heap[w.heap.size]? = some (.cells cur 5 (0, 0)) ∧ cur.size = n := by
    rcases hown.2 with ⟨h1, _⟩ | ⟨g, cap, cur, h1, _, hg, _, _, h3, _⟩
    · cases h1
    · cases h1; exact ⟨cur, hg, by simpa using h3⟩
  clear hown hgrow
  go_loopw [11] (fun i wr => ∃ k : Nat, ∃ cur : Array Value, k ≤ n ∧ i = .int .i64 k ∧ Below w.heap.size w wr ∧ wr.heap[w.heap.size]? = some (.cells cur 5 (0, 0)) ∧ Hid (cur.size = n) ∧ Hid (∀ j, j < k → cur[j]? = some (.int .u8 ((low (l.getD j 0)).toNat : Int)))) (fun i _ => n - (intOf i).toNat)
  case atStart => exact ⟨0, cur0, Nat.zero_le _, rfl, hbel, hg0, hs0, fun j hj => absurd hj (Nat.not_lt_zero _)⟩
  case round =>
    obtain ⟨k, cur, hk, rfl, hbr, hg, HS, HC⟩ := hrel
    by_cases hlt : k < n
    · obtain ⟨b, o, rfl, hc⟩ := hb.at (by omega)
      have hck : wr.cell? ⟨b, o + k, none⟩ = some (.int .u8 ((l.getD k 0).toNat : Int)) := by
        rw [← numsL_getD l k (by rw [HL.out]; exact hlt), ← hc k hlt]
        exact hbr.cell (World.block_lt_of_cell? w _ (hc k hlt))
      have hkc : k < cur.size := by rw [HS.out]; exact hlt
      have hgk : wr.cell? ⟨w.heap.size, k, none⟩ = some cur[k] := by simp [World.cell?, hg, Array.getElem?_eq_getElem hkc]
      have hfk : wr.frozen? ⟨w.heap.size, k, none⟩ = false := by simp [World.frozen?, hg]
      have HG := Lib.hid hg
      obtain ⟨bk, HB⟩ : ∃ bk, Hid (bk = l.getD k 0) := ⟨_, rfl⟩
      rw [← HB.out] at hck
      have hk1 := lowerByte_any bk
      obtain ⟨y, HY⟩ : ∃ y, Hid (y = low bk) := ⟨_, rfl⟩
      rw [← HY.out] at hk1
      clear hc hb hg
      generalize cur[k] = cv at hgk
      go_wp2_with (go_at_call 94; refine (hk1 _).mono ?_; rintro e w' ⟨rfl, rfl⟩)
      go_roundw
      case rel =>
        refine ⟨k + 1, cur.setIfInBounds k (.int .u8 (y.toNat : Int)), by omega, by go_num, hbr.setCell (p := ⟨w.heap.size, k, none⟩) (Nat.le_refl _) _, Joins.block_setCell HG.out _, ?_, fun j hj => ?_⟩
        · show (cur.setIfInBounds k _).size = n
          rw [Array.size_setIfInBounds]; exact HS.out
        · by_cases hjk : j = k
          · subst hjk
            rw [Array.getElem?_setIfInBounds_self_of_lt hkc, HY.out, HB.out]
          · rw [Array.getElem?_setIfInBounds_ne (Ne.symm hjk)]
            exact HC.out j (by omega)
      case measure => simp [intOf]; omega
    · have hkn : k = n := by omega
      have hrow : wr.ownsRow w.heap.size 5 1 (.slice (some ⟨w.heap.size, 0, none⟩) n n) n ((Lib.numsL (lowL l)).map (Value.int .u8)) := by
        refine ⟨by rw [List.length_map, Lib.numsL_length, lowL_length, HL.out, Nat.mul_one], .inr ⟨w.heap.size, n, cur, rfl, Nat.le_refl _, hg, Nat.le_refl _, by unfold maxLen; omega, by rw [HS.out, Nat.mul_one], ?_⟩⟩
        have hcs := HS.out
        have hll := HL.out
        apply List.ext_getElem?
        intro j
        rw [Nat.mul_one, List.take_of_length_le (by rw [Array.length_toList, hcs]; exact Nat.le_refl _), Array.getElem?_toList]
        rcases Nat.lt_or_ge j n with hj | hj
        · have hj' : j < (Lib.numsL (lowL l)).length := by rw [Lib.numsL_length, lowL_length, hll]; exact hj
          have hn1 := numsL_getD (lowL l) j (by rw [lowL_length, hll]; exact hj)
          rw [lowL_getD l j (by rw [hll]; exact hj), List.getD, List.getElem?_eq_getElem hj', Option.getD_some] at hn1
          rw [HC.out j (by omega), List.getElem?_map, List.getElem?_eq_getElem hj', Option.map_some, hn1]
        · rw [Array.getElem?_eq_none (by omega), List.getElem?_eq_none (by rw [List.length_map, Lib.numsL_length, lowL_length, hll]; exact hj)]
      clear HS HC hg hkn
      go_wp2
      go_ret
      exact ⟨_, rfl, hrow, hbr⟩
def sameLow (x y : List UInt8) : Bool := decide (lowL x = lowL y)
theorem Same1_any (a b : UInt8) (w : World) : Calls Tryz.prog 93 #[.int .u8 (a.toNat : Int), .int .u8 (b.toNat : Int)] w fun e w' => e = .returned (.bool (isB (low b) (low a))) ∧ w = w' := by
  have h1 := lowerByte_any a
  have h2 := lowerByte_any b
  have hx := u8_lt (low a)
  have hy := u8_lt (low b)
  generalize low a = x at *
  generalize low b = y at *
  have H := Lib.hid (show isB y x = ((x.toNat : Int) == (y.toNat : Int)) by unfold isB; rw [Bool.eq_iff_iff, beq_iff_eq, beq_iff_eq, ← UInt8.toNat_inj]; omega)
  go_enter Tryz.func93, Tryz.ntmps93
  go_wp2_with fail
  refine (h1 _).mono ?_
  rintro e w' ⟨rfl, rfl⟩
  go_wp2_with fail
  refine (h2 _).mono ?_
  rintro e w' ⟨rfl, rfl⟩
  go_wp2
  go_ret
  exact ⟨(by rw [H.out]; try rfl), rfl⟩
set_option maxRecDepth 100000 in
set_option maxHeartbeats 2000000 in
theorem EqualFunc_any (p1 p2 : Option Addr) (n c m d : Nat) (xs ys : List UInt8) (w : World) (hx : xs.length = n) (hy : ys.length = m) (hn : n ≤ 140737488355328) (hm : m ≤ 140737488355328) (h1 : Lib.BytesIn w p1 n (Lib.numsL xs)) (h2 : Lib.BytesIn w p2 m (Lib.numsL ys)) :
    Calls Tryz.prog 92 #[.slice p1 n c, .slice p2 m d, .func (.func 93) #[] #[]] w fun e w' => e = .returned (.bool (sameLow xs ys)) ∧ w = w' := by
  by_cases hnm : n = m
  · subst hnm
    have e0 : ((n : Int) != (n : Int)) = false := by simp
    go_enter Tryz.func92, Tryz.ntmps92
    go_wp2
    go_loop [17] (fun i => ∃ k : Nat, k ≤ n ∧ i = .int .i64 k ∧ Hid (sameLow xs ys = sameLow (xs.drop k) (ys.drop k))) (fun i => n - (intOf i).toNat)
    case atStart => exact ⟨0, Nat.zero_le _, rfl, rfl⟩
    case round =>
      obtain ⟨k, hk, rfl, HR⟩ := hrel
      by_cases hlt : k < n
      · obtain ⟨b1, o1, rfl, hc1⟩ := h1.at (by omega)
        obtain ⟨b2, o2, rfl, hc2⟩ := h2.at (by omega)
        have c1 := hc1 k hlt
        have c2 := hc2 k hlt
        rw [numsL_getD _ _ (by omega)] at c1 c2
        have d1 := drop_cons xs k (by omega)
        have d2 := drop_cons ys k (by omega)
        clear hc1 hc2 h1 h2 e0
        generalize xs.getD k 0 = x at c1 d1
        generalize ys.getD k 0 = y at c2 d2
        have hs := Same1_any x y w
        by_cases hxy : low x = low y
        · have HR2 := Lib.hid (show sameLow xs ys = sameLow (xs.drop (k + 1)) (ys.drop (k + 1)) by rw [HR.out, d1, d2]; unfold sameLow lowL; simp [hxy])
          rw [show isB (low y) (low x) = true from by unfold isB; rw [beq_iff_eq]; exact hxy] at hs
          clear d1 d2 HR hxy
          go_wp2_with (go_at_call 93; refine hs.mono ?_; rintro e w' ⟨rfl, hw⟩; subst hw)
          go_round
          case rel => exact ⟨k + 1, by omega, by go_num, HR2⟩
          case measure => simp [intOf]; omega
        · have H := Lib.hid (show sameLow xs ys = false by rw [HR.out, d1, d2]; unfold sameLow lowL; simp [hxy])
          rw [show isB (low y) (low x) = false from by unfold isB; rw [beq_eq_false_iff_ne]; exact hxy] at hs
          clear d1 d2 HR hxy
          go_wp2_with (go_at_call 93; refine hs.mono ?_; rintro e w' ⟨rfl, hw⟩; subst hw)
          go_ret
          exact ⟨(by rw [H.out]; try rfl), rfl⟩
      · have H := Lib.hid (show sameLow xs ys = true by rw [HR.out, List.drop_of_length_le (by omega), List.drop_of_length_le (by omega)]; rfl)
        clear HR
        go_wp2
        go_ret
        exact ⟨(by rw [H.out]; try rfl), rfl⟩
  · have e0 : ((n : Int) != (m : Int)) = true := by rw [bne_iff_ne]; omega
    have H := Lib.hid (show sameLow xs ys = false by unfold sameLow; rw [decide_eq_false_iff_not]; intro h; apply hnm; rw [← hx, ← hy, ← lowL_length xs, ← lowL_length ys, h])
    go_enter Tryz.func92, Tryz.ntmps92
    go_wp2
    go_ret
    exact ⟨(by rw [H.out]; try rfl), rfl⟩
theorem cutSame_any (p1 p2 : Option Addr) (n c m d : Nat) (xs ys : List UInt8) (w : World) (hx : xs.length = n) (hy : ys.length = m) (hn : n ≤ 140737488355328) (hm : m ≤ 140737488355328) (h1 : Lib.BytesIn w p1 n (Lib.numsL xs)) (h2 : Lib.BytesIn w p2 m (Lib.numsL ys)) :
    Calls Tryz.prog 57 #[.slice p1 n c, .slice p2 m d] w fun e w' => e = .returned (.bool (sameLow xs ys)) ∧ w = w' := by
  have con := EqualFunc_any p1 p2 n c m d xs ys w hx hy hn hm h1 h2
  clear h1 h2
  go_enter Tryz.func57, Tryz.ntmps57
  go_wp2_with (go_at_call 92; refine con.mono ?_; rintro e w' ⟨rfl, rfl⟩)
  go_ret
  exact ⟨rfl, rfl⟩
end Go.Proofs.YtedglpfdibamdaaGreatDoor
namespace Go.Proofs.YtedglpfdibamdaaGreatDoor
open Go.RowKit Go.Shelf
theorem index_at : ∀ (l : List UInt8) (c : UInt8) (k : Nat), k < l.length → l.getD k 0 = c → (∀ j, j < k → l.getD j 0 ≠ c) → Lib.indexByte l c = (k : Int)
  | [], _, k, h, _, _ => absurd h (Nat.not_lt_zero k)
  | x :: r, c, 0, _, h, _ => by
    have : x = c := h
    subst this
    simp [Lib.indexByte]
  | x :: r, c, k + 1, h, hk, hj => by
    have hx : x ≠ c := hj 0 (Nat.succ_pos k)
    have ih := index_at r c k (by simpa using h) hk (fun j hjk => hj (j + 1) (by omega))
    unfold Lib.indexByte
    rw [if_neg (by simpa using hx), ih]
    simp
theorem index_no : ∀ (l : List UInt8) (c : UInt8), (∀ j, j < l.length → l.getD j 0 ≠ c) → Lib.indexByte l c = -1
  | [], _, _ => rfl
  | x :: r, c, h => by
    have hx : x ≠ c := h 0 (Nat.succ_pos _)
    have ih := index_no r c (fun j hj => h (j + 1) (by simpa using hj))
    unfold Lib.indexByte
    rw [if_neg (by simpa using hx), ih]
    simp
def atFst (b : UInt8) (l : List UInt8) : List UInt8 := if 0 ≤ Lib.indexByte l b then l.take (Lib.indexByte l b).toNat else l
def atSnd (b : UInt8) (l : List UInt8) : List UInt8 := if 0 ≤ Lib.indexByte l b then l.drop ((Lib.indexByte l b).toNat + 1) else []
def atOk (b : UInt8) (l : List UInt8) : Bool := decide (0 ≤ Lib.indexByte l b)
theorem at_found (b : UInt8) (l : List UInt8) (k : Nat) (h : Lib.indexByte l b = (k : Int)) : atFst b l = l.take k ∧ atSnd b l = l.drop (k + 1) ∧ atOk b l = true := by
  unfold atFst atSnd atOk
  rw [h]
  simp
theorem at_none (b : UInt8) (l : List UInt8) (h : Lib.indexByte l b = -1) : atFst b l = l ∧ atSnd b l = [] ∧ atOk b l = false := by
  unfold atFst atSnd atOk
  rw [h]
  simp
end Go.Proofs.YtedglpfdibamdaaGreatDoor
namespace Go.Proofs.YtedglpfdibamdaaGreatDoor
theorem piecesOf_cons (l : List UInt8) (x : Nat × Nat) (r : List (Nat × Nat)) : piecesOf l (x :: r) = sub l x.1 x.2 :: piecesOf l r := rfl
theorem pieces_go (c : UInt8) (l : List UInt8) : ∀ (r : List UInt8) (i f : Nat), l.drop i = r → f ≤ i → i ≤ l.length → piecesOf l (spansGo (isB c) r i f) = Ref.onto (sub l f i) (Ref.splitL c r)
  | [], i, f, _, _, _ => by
    unfold spansGo
    rw [piecesOf_cons]
    simp [piecesOf, Ref.splitL, Ref.onto]
  | b :: r, i, f, hd, hf, hi => by
    have hlt : i < l.length := by
      rcases Nat.lt_or_ge i l.length with h | h
      · exact h
      · rw [List.drop_of_length_le h] at hd; cases hd
    have hdc := drop_cons l i hlt
    rw [hd] at hdc
    simp only [List.cons.injEq] at hdc
    have hb : b = l.getD i 0 := hdc.1
    have hr : l.drop (i + 1) = r := hdc.2.symm
    by_cases h : b = c
    · have hp : isB c b = true := by unfold isB; rw [beq_iff_eq]; exact h
      have e : spansGo (isB c) (b :: r) i f = (f, i) :: spansGo (isB c) r (i + 1) (i + 1) := by conv => lhs; unfold spansGo; rw [if_pos hp]
      rw [e, piecesOf_cons, pieces_go c l r (i + 1) (i + 1) hr (Nat.le_refl _) hlt, sub_nil, h, Ref.split_is, Ref.onto_nil _ (Ref.split_ne c r)]
      simp [Ref.onto]
    · have hp : ¬ isB c b = true := by unfold isB; rw [beq_iff_eq]; exact h
      have e : spansGo (isB c) (b :: r) i f = spansGo (isB c) r (i + 1) f := by conv => lhs; unfold spansGo; rw [if_neg hp]
      rw [e, pieces_go c l r (i + 1) f hr (by omega) hlt, sub_snoc l f i hf hlt, Ref.split_not c b r h, ← hb, Ref.onto_onto _ _ _ (Ref.split_ne c r)]
theorem pieces_split (c : UInt8) (l : List UInt8) : piecesOf l (spansL (isB c) l) = Ref.splitL c l := by
  unfold spansL
  rw [pieces_go c l l 0 0 (List.drop_zero) (Nat.le_refl _) (Nat.zero_le _), sub_nil, Ref.onto_nil _ (Ref.split_ne c l)]
theorem digit_dec (b : UInt8) : digitB b = Ref.decB b := rfl
theorem numGo_ref (most : Int) : ∀ (l : List UInt8) (n : Int), numGo most l n = Ref.numGo most l n
  | [], _ => rfl
  | b :: r, n => by
    unfold numGo Ref.numGo
    rw [digit_dec, numGo_ref most r]
theorem numOf_ref (most : Int) (l : List UInt8) : numOf most l = Ref.numOf most l := by
  unfold numOf Ref.numOf
  rw [numGo_ref]
end Go.Proofs.YtedglpfdibamdaaGreatDoor
namespace Go.Proofs.YtedglpfdibamdaaGreatDoor
open Go.RowKit Go.Shelf
theorem bytesOf_numsL (l : List UInt8) : Lib.bytesOf (Lib.numsL l) = l := by
  unfold Lib.bytesOf Lib.numsL
  rw [List.map_map]
  conv => rhs; rw [← List.map_id l]
  apply List.map_congr_left
  intro b _
  simp
theorem IndexByte_any (q : Option Addr) (n c : Nat) (l : List UInt8) (b : UInt8) (w : World) (hl : l.length = n) (hq : q = none → n = 0 ∧ c = 0) (h : Lib.BytesIn w q n (Lib.numsL l)) :
    Calls Tryz.prog 107 #[.slice q n c, .int .u8 (b.toNat : Int)] w fun e w' => e = .returned (.int .i64 (Lib.indexByte l b)) ∧ w' = w := by
  cases q with
  | none =>
    obtain ⟨rfl, rfl⟩ := hq rfl
    obtain rfl : l = [] := List.eq_nil_of_length_eq_zero hl
    exact Tryz.bytes_IndexByte_nil (b.toNat : Int) w
  | some a =>
    have h1 := Tryz.bytes_IndexByte_at a n c (Lib.numsL l) (b.toNat : Int) w (by rw [Lib.numsL_length, hl]) (fun i hi => by
      obtain ⟨b', o, he, hc⟩ := h.at (by omega)
      cases he
      rw [Go.WideShapes.add_plain]
      exact hc i hi)
    rw [bytesOf_numsL, show (b.toNat : Int).toNat.toUInt8 = b from by simp] at h1
    exact h1
theorem index_lt : ∀ (l : List UInt8) (c : UInt8), Lib.indexByte l c < (l.length : Int)
  | [], _ => by simp [Lib.indexByte]
  | x :: r, c => by
    have ih := index_lt r c
    unfold Lib.indexByte
    split
    · simp
    · simp only [beq_iff_eq]
      split <;> simp <;> omega
theorem run_slice_to (q : Option Addr) (n c j : Nat) (W : World) (hj : j ≤ c) :
    (Instr.slice 22 (.slice q n c) none (some (.int .i64 (j : Int))) none).run Tryz.prog W = .ok (.slice (subA q c 0) j c) W := by
  have hs : ∀ w, (Go.sizeOf 5).run Tryz.prog w = .ok 1 w := Tryz.sizeOf5
  have he : Tryz.prog.elem 22 = 5 := by kernel_rfl
  have h := run_slice_h (P := Tryz.prog) (w := W) 22 q n c (by rw [he]; exact Tryz.underlying22) .i64 j (by omega) (by omega)
  rw [h, he, hs]
  simp [Result.andThen, sliced, subA]
theorem run_slice_from (q : Option Addr) (n c i : Nat) (W : World) (hi : i + 1 ≤ n) :
    (Instr.slice 22 (.slice q n c) (some (.int .i64 ((i : Int) + 1))) none none).run Tryz.prog W = .ok (.slice (subA q c (i + 1)) (n - (i + 1)) (c - (i + 1))) W := by
  have hs : ∀ w, (Go.sizeOf 5).run Tryz.prog w = .ok 1 w := Tryz.sizeOf5
  have he : Tryz.prog.elem 22 = 5 := by kernel_rfl
  have h := run_slice_l (P := Tryz.prog) (w := W) 22 q n c (by rw [he]; exact Tryz.underlying22) .i64 ((i : Int) + 1) (by omega) (by omega)
  rw [h, he, hs]
  simp only [Result.andThen, sliced, subA, Nat.mul_one, show ((i : Int) + 1).toNat = i + 1 from by omega]
theorem sub_to (l : List UInt8) (k : Nat) : sub l 0 k = l.take k := by unfold sub; simp
theorem sub_from (l : List UInt8) (k : Nat) : sub l k l.length = l.drop k := by unfold sub; rw [List.take_of_length_le (by simp)]
set_option maxRecDepth 100000 in
set_option maxHeartbeats 8000000 in
theorem At_any (q : Option Addr) (n c : Nat) (l : List UInt8) (b : UInt8) (w : World) (hl : l.length = n) (hn : n ≤ 1099511627775) (hcp : n ≤ c) (hq : q = none → n = 0 ∧ c = 0) (h : Lib.BytesIn w q n (Lib.numsL l)) :
    Calls Tryz.prog 72 #[.slice q n c, .int .u8 (b.toNat : Int)] w fun e w' => ∃ v1 v2, e = .returned (.tuple #[v1, v2, .bool (atOk b l)]) ∧
      w'.ownsRow w.heap.size 5 1 v1 (atFst b l).length ((Lib.numsL (atFst b l)).map (Value.int .u8)) ∧
      w'.ownsRow w.heap.size 5 1 v2 (atSnd b l).length ((Lib.numsL (atSnd b l)).map (Value.int .u8)) ∧ Below w.heap.size w w' := by
  have hix := IndexByte_any q n c l b w hl hq h
  have hge := Lib.indexByte_ge l b
  have hlt := index_lt l b
  by_cases h0 : 0 ≤ Lib.indexByte l b
  · obtain ⟨k, hk⟩ : ∃ k : Nat, Lib.indexByte l b = (k : Int) := ⟨(Lib.indexByte l b).toNat, by omega⟩
    obtain ⟨e1, e2, e3⟩ := at_found b l k hk
    rw [hk] at hix hlt
    have hkn : k < n := by omega
    rw [e1, e2, e3]
    have hb1 := bytes_sub h hl (Nat.zero_le k) (by omega) hcp
    have hb2 := bytes_sub h hl (show k + 1 ≤ n from hkn) (Nat.le_refl n) hcp
    have hs2 : sub l (k + 1) n = l.drop (k + 1) := by rw [← hl]; exact sub_from l (k + 1)
    rw [sub_to, Nat.sub_zero] at hb1
    rw [hs2] at hb2
    have hl1 : (l.take k).length = k := by rw [List.length_take]; omega
    have hl2 : (l.drop (k + 1)).length = n - (k + 1) := by rw [List.length_drop]; omega
    have hwr : IntKind.i64.wrap ((k : Int) + 1) = (k : Int) + 1 := by rw [IntKind.wrap_i64]; omega
    have hr1 : ∀ W, (Instr.slice 22 (.slice q n c) none (some (.int .i64 (k : Int))) none).run Tryz.prog W = .ok (.slice (subA q c 0) k c) W := fun W => run_slice_to q n c k W (by omega)
    have hr2 : ∀ W, (Instr.slice 22 (.slice q n c) (some (.int .i64 ((k : Int) + 1))) none none).run Tryz.prog W = .ok (.slice (subA q c (k + 1)) (n - (k + 1)) (c - (k + 1))) W := fun W => run_slice_from q n c k W hkn
    clear e1 e2 e3 h0 hge hk hs2 h
    rw [hl1, hl2]
    generalize l.take k = l1 at *
    generalize l.drop (k + 1) = l2 at *
    generalize hqa : subA q c 0 = qa at *
    generalize hqb : subA q c (k + 1) = qb at *
    clear hqa hqb
    go_enter Tryz.func72, Tryz.ntmps72
    go_wp2_with fail
    refine hix.mono ?_
    rintro e w' ⟨rfl, hw⟩
    subst hw
    go_wp2_with fail
    refine pregion_any (fun _ => True) (by kernel_rfl) ?_
    refine wpAnyH_take (i := 0) (v := .slice q n c) rfl (by kernel_rfl) (by kernel_rfl) (by kernel_rfl) (fun _ _ _ h => h) (.inl ⟨by kernel_rfl, ?_⟩) trivial ?_
    · rintro w -; go_simp
    refine wpAnyH_take (i := 1) (v := .int .i64 (k : Int)) rfl (by kernel_rfl) (by kernel_rfl) (by kernel_rfl) (fun _ _ _ h => h) (.inl ⟨by kernel_rfl, ?_⟩) trivial ?_
    · rintro w -; go_simp
    refine wpAnyH_take (i := 2) (v := .slice qa k c) rfl (by kernel_rfl) (by kernel_rfl) (by kernel_rfl) (fun _ _ _ h => h) (.inl ⟨by kernel_rfl, ?_⟩) trivial ?_
    · rintro w -; go_simp
    refine wpAnyH_take (i := 4) (v := .slice q n c) rfl (by kernel_rfl) (by kernel_rfl) (by kernel_rfl) (fun _ _ _ h => h) (.inl ⟨by kernel_rfl, ?_⟩) trivial ?_
    · rintro w -; go_simp
    refine wpAnyH_take (i := 5) (v := .int .i64 (k : Int)) rfl (by kernel_rfl) (by kernel_rfl) (by kernel_rfl) (fun _ _ _ h => h) (.inl ⟨by kernel_rfl, ?_⟩) trivial ?_
    · rintro w -; go_simp
    refine wpAnyH_take (i := 6) (v := .int .i64 ((k : Int) + 1)) rfl (by kernel_rfl) (by kernel_rfl) (by kernel_rfl) (fun _ _ _ h => h) (.inl ⟨by kernel_rfl, ?_⟩) trivial ?_
    · rintro w -; go_simp
    refine wpAnyH_take (i := 7) (v := .slice qb (n - (k + 1)) (c - (k + 1))) rfl (by kernel_rfl) (by kernel_rfl) (by kernel_rfl) (fun _ _ _ h => h) (.inl ⟨by kernel_rfl, ?_⟩) trivial ?_
    · rintro w -; go_simp
    have hd1 := bytes_keep hb1 (Keep.drew (fun _ => True) _) (fun _ _ _ => trivial)
    have hd2 := bytes_keep hb2 (Keep.drew (fun _ => True) _) (fun _ _ _ => trivial)
    refine pone 3 (by kernel_rfl) rfl fun K hK => ?_
    go_simp
    refine (Clone_any qa k c l1 _ hl1 (by omega) hd1).mono ?_
    rintro e w1 ⟨v1, rfl, hrow1, hbel1⟩
    have hd3 := bytes_keep hd2 (Keep.of_below hbel1) (fun a h1 h2 => bytes_lt hd2 a h1 h2)
    rw [drew_size] at hrow1 hbel1
    refine hK _ _ trivial ?_
    clear hK K
    refine pone 8 (by kernel_rfl) rfl fun K hK => ?_
    go_simp
    refine (Clone_any qb (n - (k + 1)) (c - (k + 1)) l2 _ hl2 (by omega) hd3).mono ?_
    rintro e w2 ⟨v2, rfl, hrow2, hbel2⟩
    have hrow1' := (Keep.of_below hbel2).row hrow1 (fun b hb => (hrow1.lt b hb).2)
    have hsz := hbel1.size
    rw [drew_size] at hsz
    have hrow2' := row_base hrow2 hsz
    have hfin : Below w'.heap.size w' w2 := (Below.refl _ _).drew.trans (hbel1.trans (hbel2.mono hsz))
    refine hK _ _ trivial ?_
    clear hK K hrow1 hrow2 hbel1 hbel2 hd1 hd2 hd3 hb1 hb2
    refine wpAnyH_take (i := 9) (v := v1) rfl (by kernel_rfl) (by kernel_rfl) (by kernel_rfl) (fun _ _ _ h => h) (.inl ⟨by kernel_rfl, ?_⟩) trivial ?_
    · rintro w -; go_simp
    refine wpAnyH_take (i := 10) (v := v2) rfl (by kernel_rfl) (by kernel_rfl) (by kernel_rfl) (fun _ _ _ h => h) (.inl ⟨by kernel_rfl, ?_⟩) trivial ?_
    · rintro w -; go_simp
    refine wpAnyH_take (i := 11) (v := .bool true) rfl (by kernel_rfl) (by kernel_rfl) (by kernel_rfl) (fun _ _ _ h => h) (.inl ⟨by kernel_rfl, ?_⟩) trivial ?_
    · rintro w -; go_simp
    refine pdone (by kernel_rfl) ?_ _
    go_wp2
    go_ret3
    exact ⟨v1, v2, rfl, hrow1', hrow2', hfin⟩
  · have hk : Lib.indexByte l b = -1 := by omega
    obtain ⟨e1, e2, e3⟩ := at_none b l hk
    rw [hk] at hix
    rw [e1, e2, e3, hl]
    clear e1 e2 e3 h0 hge hk hlt
    go_enter Tryz.func72, Tryz.ntmps72
    go_wp2_with fail
    refine hix.mono ?_
    rintro e w' ⟨rfl, hw⟩
    subst hw
    go_wp2_with fail
    refine (Clone_any q n c l _ hl (by omega) h).mono ?_
    rintro e w1 ⟨v1, rfl, hrow1, hbel1⟩
    go_wp2
    go_ret3
    exact ⟨v1, _, rfl, hrow1, World.ownsRow_nil _ _ _ _, hbel1⟩
end Go.Proofs.YtedglpfdibamdaaGreatDoor
namespace Go.Proofs.YtedglpfdibamdaaGreatDoor.Host
open Go.RowKit Go.Shelf Ref
set_option maxHeartbeats 1000000 in
theorem isDigit_any (b : UInt8) (w : World) :
    Calls Tryz.prog 180 #[.int .u8 (b.toNat : Int)] w fun e w' => e = .returned (.bool (Ref.decB b)) ∧ w = w' := by
  have hb := Ref.u8_lt b
  by_cases h1 : 48 ≤ b.toNat
  · by_cases h2 : b.toNat ≤ 57
    · have H := Lib.hid (show Ref.decB b = true by simp [Ref.decB]; omega)
      have d1 : decide ((48 : Int) ≤ (b.toNat : Int)) = true := by simp; omega
      have d2 : decide ((b.toNat : Int) ≤ (57 : Int)) = true := by simp; omega
      go_enter Tryz.func180, Tryz.ntmps180
      go_wp2
      go_ret
      exact ⟨(by rw [H.out]; try rfl), rfl⟩
    · have H := Lib.hid (show Ref.decB b = false by simp [Ref.decB]; omega)
      have d2 : decide ((b.toNat : Int) ≤ (57 : Int)) = false := by simp; omega
      go_enter Tryz.func180, Tryz.ntmps180
      go_wp2
      go_ret
      exact ⟨(by rw [H.out]; try rfl), rfl⟩
  · have H := Lib.hid (show Ref.decB b = false by simp [Ref.decB]; omega)
    have d1 : decide ((48 : Int) ≤ (b.toNat : Int)) = false := by simp; omega
    go_enter Tryz.func180, Tryz.ntmps180
    go_wp2
    go_ret
    exact ⟨(by rw [H.out]; try rfl), rfl⟩
set_option maxHeartbeats 1000000 in
theorem isLetter_any (b : UInt8) (w : World) :
    Calls Tryz.prog 203 #[.int .u8 (b.toNat : Int)] w fun e w' => e = .returned (.bool (Ref.letB b)) ∧ w = w' := by
  have hb := Ref.u8_lt b
  obtain ⟨x1, h1⟩ : ∃ x, decide ((65 : Int) ≤ (b.toNat : Int)) = x := ⟨_, rfl⟩
  obtain ⟨x2, h2⟩ : ∃ x, decide ((b.toNat : Int) ≤ (90 : Int)) = x := ⟨_, rfl⟩
  obtain ⟨x3, h3⟩ : ∃ x, decide ((97 : Int) ≤ (b.toNat : Int)) = x := ⟨_, rfl⟩
  obtain ⟨x4, h4⟩ : ∃ x, decide ((b.toNat : Int) ≤ (122 : Int)) = x := ⟨_, rfl⟩
  have H := Lib.hid (show Ref.letB b = ((x1 && x2) || (x3 && x4)) by
    rw [← h1, ← h2, ← h3, ← h4, Bool.eq_iff_iff]
    simp only [Ref.letB, decide_eq_true_eq, Bool.or_eq_true, Bool.and_eq_true]
    omega)
  cases x1 <;> cases x2 <;> cases x3 <;> cases x4
  all_goals
    go_enter Tryz.func203, Tryz.ntmps203
    go_wp2
    go_ret
    exact ⟨(by rw [H.out]; try rfl), rfl⟩
theorem part_parts (p : List UInt8) : partB p = (!p.isEmpty && decide (p.length ≤ 63) && p.getD 0 0 != 45 && p.getD (p.length - 1) 0 != 45 && p.all hostByte) := rfl
theorem hostByte_of (b : UInt8) : hostByte b = (Ref.letB b || Ref.decB b || b == 45) := rfl
theorem all_host_drop (l : List UInt8) (k : Nat) (h : k < l.length) : (l.drop k).all hostByte = (hostByte (l.getD k 0) && (l.drop (k + 1)).all hostByte) := by
  rw [Ref.drop_cons l k h, List.all_cons]
set_option maxRecDepth 100000 in
set_option maxHeartbeats 8000000 in
theorem isPart_any (q : Option Addr) (n c : Nat) (l : List UInt8) (w : World) (hl : l.length = n) (hn : n ≤ 140737488355328) (h : Lib.BytesIn w q n (Lib.numsL l)) :
    Calls Tryz.prog 179 #[.slice q n c] w fun e w' => e = .returned (.bool (partB l)) ∧ w = w' := by
  have PP := Lib.hid (part_parts l)
  by_cases hz : n = 0
  · subst hz
    obtain rfl : l = [] := List.eq_nil_of_length_eq_zero hl
    have H := Lib.hid (show partB [] = false from rfl)
    clear PP h
    go_enter Tryz.func179, Tryz.ntmps179
    go_wp2
    go_ret
    exact ⟨(by rw [H.out]; try rfl), rfl⟩
  · have hz' : 0 < n := by omega
    have e0 : ((n : Int) == 0) = false := by rw [beq_eq_false_iff_ne]; omega
    have hne : l.isEmpty = false := by cases l with | nil => simp at hl; omega | cons a r => rfl
    obtain ⟨b, o, rfl, hc⟩ := h.at hz'
    have HC := Lib.hid (fun k (hk : k < n) => show w.cell? ⟨b, o + k, none⟩ = some (.int .u8 ((l.getD k 0).toNat : Int)) by rw [hc k hk, numsL_getD l k (by omega)])
    clear hc h
    by_cases h63 : 63 < n
    · have d3 : decide ((63 : Int) < (n : Int)) = true := by simp; omega
      have H := Lib.hid (show partB l = false by rw [PP.out, hl, decide_eq_false (by omega)]; simp)
      clear PP HC hl hz hne
      go_enter Tryz.func179, Tryz.ntmps179
      go_wp2
      go_ret
      exact ⟨(by rw [H.out]; try rfl), rfl⟩
    · have d3 : decide ((63 : Int) < (n : Int)) = false := by simp; omega
      have ck0 : w.cell? ⟨b, o, none⟩ = some (.int .u8 ((l.getD 0 0).toNat : Int)) := HC.out 0 hz'
      have ckl := HC.out (n - 1) (by omega)
      have PQ := Lib.hid (show partB l = (l.getD 0 0 != 45 && l.getD (n - 1) 0 != 45 && l.all hostByte) by rw [PP.out, hl, decide_eq_true (by omega), hne]; simp)
      have wn : IntKind.i64.wrap ((n : Int) - 1) = ((n - 1 : Nat) : Int) := by rw [IntKind.wrap_i64]; omega
      clear PP hne
      generalize l.getD 0 0 = b0 at *
      by_cases h45 : b0 = 45
      · have e1 : ((b0.toNat : Int) == 45) = true := by rw [h45]; rfl
        have H := Lib.hid (show partB l = false by rw [PQ.out, h45]; rfl)
        clear PQ HC hl hz h45 ckl wn
        go_enter Tryz.func179, Tryz.ntmps179
        go_wp2
        go_ret
        exact ⟨(by rw [H.out]; try rfl), rfl⟩
      · have e1 : ((b0.toNat : Int) == 45) = false := by
          rw [beq_eq_false_iff_ne]; intro h; exact h45 (UInt8.toNat_inj.1 (by have : (45 : UInt8).toNat = 45 := rfl; omega))
        generalize l.getD (n - 1) 0 = bl at *
        by_cases h45' : bl = 45
        · have e2 : ((bl.toNat : Int) == 45) = true := by rw [h45']; rfl
          have H := Lib.hid (show partB l = false by rw [PQ.out, h45']; simp)
          clear PQ HC hl h45 h45'
          go_enter Tryz.func179, Tryz.ntmps179
          go_wp2
          go_ret
          exact ⟨(by rw [H.out]; try rfl), rfl⟩
        · have e2 : ((bl.toNat : Int) == 45) = false := by
            rw [beq_eq_false_iff_ne]; intro h; exact h45' (UInt8.toNat_inj.1 (by have : (45 : UInt8).toNat = 45 := rfl; omega))
          have PA := Lib.hid (show partB l = l.all hostByte by rw [PQ.out, bne_iff_ne.2 h45, bne_iff_ne.2 h45']; simp)
          clear PQ h45 h45'
          have HL := Lib.hid hl
          clear hl
          go_enter Tryz.func179, Tryz.ntmps179
          go_wp2
          clear e0 e1 e2 d3 ck0 ckl wn hz
          go_loop [30] (fun i => ∃ k : Nat, k ≤ n ∧ i = .int .i64 k ∧ Hid (partB l = (l.drop k).all hostByte)) (fun i => n - (intOf i).toNat)
          case atStart => exact ⟨0, Nat.zero_le _, rfl, PA⟩
          case round =>
            obtain ⟨k, hk, rfl, HR⟩ := hrel
            by_cases hlt : k < n
            · have ck := HC.out k hlt
              have hd := all_host_drop l k (by rw [HL.out]; exact hlt)
              rw [hostByte_of] at hd
              generalize l.getD k 0 = bk at *
              have c1 := isLetter_any bk
              have c2 := isDigit_any bk
              have hbk := Ref.u8_lt bk
              cases hle : Ref.letB bk with
              | true =>
                rw [hle] at c1 hd
                have HR2 := Lib.hid (show partB l = (l.drop (k + 1)).all hostByte by rw [HR.out, hd]; simp)
                clear hd hle HR c2 PA
                go_wp2_with (go_at_call 203; refine (c1 _).mono ?_; rintro e w' ⟨rfl, rfl⟩)
                go_round
                case rel => exact ⟨k + 1, by omega, by go_num, HR2⟩
                case measure => simp [intOf]; omega
              | false =>
                cases hde : Ref.decB bk with
                | true =>
                  rw [hle] at c1 hd
                  rw [hde] at c2 hd
                  have HR2 := Lib.hid (show partB l = (l.drop (k + 1)).all hostByte by rw [HR.out, hd]; simp)
                  clear hd hle hde HR PA
                  go_wp2_with (first | (go_at_call 203; refine (c1 _).mono ?_; rintro e w' ⟨rfl, rfl⟩) | (go_at_call 180; refine (c2 _).mono ?_; rintro e w' ⟨rfl, rfl⟩))
                  go_round
                  case rel => exact ⟨k + 1, by omega, by go_num, HR2⟩
                  case measure => simp [intOf]; omega
                | false =>
                  rw [hle] at c1 hd
                  rw [hde] at c2 hd
                  by_cases hmi : bk = 45
                  · have e3 : ((bk.toNat : Int) != 45) = false := by rw [hmi]; rfl
                    have HR2 := Lib.hid (show partB l = (l.drop (k + 1)).all hostByte by rw [HR.out, hd, hmi]; rfl)
                    clear hd hle hde HR hmi PA
                    go_wp2_with (first | (go_at_call 203; refine (c1 _).mono ?_; rintro e w' ⟨rfl, rfl⟩) | (go_at_call 180; refine (c2 _).mono ?_; rintro e w' ⟨rfl, rfl⟩))
                    go_round
                    case rel => exact ⟨k + 1, by omega, by go_num, HR2⟩
                    case measure => simp [intOf]; omega
                  · have e3 : ((bk.toNat : Int) != 45) = true := by
                      rw [bne_iff_ne]; intro h; exact hmi (UInt8.toNat_inj.1 (by have : (45 : UInt8).toNat = 45 := rfl; omega))
                    have H := Lib.hid (show partB l = false by rw [HR.out, hd, beq_false_of_ne hmi]; rfl)
                    clear hd hle hde HR hmi PA
                    go_wp2_with (first | (go_at_call 203; refine (c1 _).mono ?_; rintro e w' ⟨rfl, rfl⟩) | (go_at_call 180; refine (c2 _).mono ?_; rintro e w' ⟨rfl, rfl⟩))
                    go_ret
                    exact ⟨(by rw [H.out]; try rfl), rfl⟩
            · have H := Lib.hid (show partB l = true by rw [HR.out, List.drop_of_length_le (by rw [HL.out]; omega)]; rfl)
              clear HR PA
              go_wp2
              go_ret
              exact ⟨(by rw [H.out]; try rfl), rfl⟩
end Go.Proofs.YtedglpfdibamdaaGreatDoor.Host
namespace Go.Proofs.YtedglpfdibamdaaGreatDoor
open Go.RowKit Go.Shelf
set_option maxHeartbeats 1000000 in
theorem isBlank_any (b : UInt8) (w : World) :
    Calls Tryz.prog 64 #[.int .u8 (b.toNat : Int)] w fun e w' => e = .returned (.bool (blankB b)) ∧ w = w' := by
  have hb := u8_lt b
  by_cases h1 : b.toNat = 32
  · have d1 : ((b.toNat : Int) == 32) = true := by rw [beq_iff_eq]; omega
    have H := Lib.hid (show blankB b = true by simp [blankB]; omega)
    clear h1
    go_enter Tryz.func64, Tryz.ntmps64
    go_wp2
    go_ret
    exact ⟨(by rw [H.out]; try rfl), rfl⟩
  · have d1 : ((b.toNat : Int) == 32) = false := by rw [beq_eq_false_iff_ne]; omega
    have H := Lib.hid (show blankB b = ((b.toNat : Int) == 9) by rw [Bool.eq_iff_iff, beq_iff_eq]; simp [blankB]; omega)
    clear h1
    go_enter Tryz.func64, Tryz.ntmps64
    go_wp2
    go_ret
    exact ⟨(by rw [H.out]; try rfl), rfl⟩
def Trims (l : List UInt8) (f e : Nat) : Prop :=
  (f = l.length ∧ e = l.length ∧ ∀ j, j < l.length → blankB (l.getD j 0) = true) ∨
  (f < e ∧ e ≤ l.length ∧ (∀ j, j < f → blankB (l.getD j 0) = true) ∧ blankB (l.getD f 0) = false ∧ blankB (l.getD (e - 1) 0) = false ∧ ∀ j, e ≤ j → j < l.length → blankB (l.getD j 0) = true)
theorem first_no (l : List UInt8) : ∀ (d m : Nat), l.length - m = d → (∀ j, j < m → blankB (l.getD j 0) = true) → m ≤ l.length →
    (∀ j, j < l.length → blankB (l.getD j 0) = true) ∨ ∃ f, f < l.length ∧ (∀ j, j < f → blankB (l.getD j 0) = true) ∧ blankB (l.getD f 0) = false
  | 0, m, hd, h, hm => .inl (fun j hj => h j (by omega))
  | d + 1, m, hd, h, hm => by
    by_cases hb : blankB (l.getD m 0) = true
    · exact first_no l d (m + 1) (by omega) (fun j hj => by
        by_cases he : j = m
        · subst he; exact hb
        · exact h j (by omega)) (by omega)
    · exact .inr ⟨m, by omega, h, by simpa using hb⟩
theorem last_no (l : List UInt8) (f : Nat) (hf : blankB (l.getD f 0) = false) : ∀ (m : Nat), f < m → m ≤ l.length → (∀ j, m ≤ j → j < l.length → blankB (l.getD j 0) = true) →
    ∃ e, f < e ∧ e ≤ l.length ∧ blankB (l.getD (e - 1) 0) = false ∧ ∀ j, e ≤ j → j < l.length → blankB (l.getD j 0) = true
  | 0, h, _, _ => absurd h (Nat.not_lt_zero f)
  | m + 1, h, hm, ha => by
    by_cases hb : blankB (l.getD m 0) = true
    · have hne : f ≠ m := by rintro rfl; rw [hf] at hb; cases hb
      exact last_no l f hf m (by omega) (by omega) (fun j hj hl => by
        by_cases he : j = m
        · subst he; exact hb
        · exact ha j (by omega) hl)
    · exact ⟨m + 1, h, hm, by rw [Nat.add_sub_cancel]; simpa using hb, ha⟩
theorem trims (l : List UInt8) : ∃ f e, Trims l f e := by
  rcases first_no l l.length 0 (by omega) (fun j hj => absurd hj (Nat.not_lt_zero j)) (Nat.zero_le _) with h | ⟨f, h1, h2, h3⟩
  · exact ⟨_, _, .inl ⟨rfl, rfl, h⟩⟩
  · obtain ⟨e, h4, h5, h6, h7⟩ := last_no l f h3 l.length h1 (Nat.le_refl _) (fun j h1 h2 => absurd h1 (by omega))
    exact ⟨f, e, .inr ⟨h4, h5, h2, h3, h6, h7⟩⟩
theorem Trims.le {l : List UInt8} {f e : Nat} (h : Trims l f e) : f ≤ e ∧ e ≤ l.length := by
  rcases h with ⟨h1, h2, _⟩ | ⟨h1, h2, _⟩ <;> omega
set_option maxRecDepth 100000 in
set_option maxHeartbeats 4000000 in
theorem cutTrim_any (q : Option Addr) (n c f e : Nat) (l : List UInt8) (w : World) (hl : l.length = n) (hn : n ≤ 1099511627775) (hnc : n ≤ c) (hb : Lib.BytesIn w q n (Lib.numsL l)) (ht : Trims l f e) :
    Calls Tryz.prog 39 #[.slice q n c] w fun e' w' => ∃ v', e' = .returned v' ∧ w'.ownsRow w.heap.size 5 1 v' (sub l f e).length ((Lib.numsL (sub l f e)).map (Value.int .u8)) ∧ Below w.heap.size w w' := by
  have hle := ht.le
  have con := Clone_any (subA q c f) (e - f) (c - f) (sub l f e) w (by rw [sub_length _ _ _ hle.2]) (by omega) (bytes_sub hb hl hle.1 (by omega) hnc)
  have hsl := fun W => run_slice_sub q n c f e W hle.1 (by omega)
  have hcell : ∀ j, j < n → ∃ b o, q = some ⟨b, o, none⟩ ∧ w.cell? ⟨b, o + j, none⟩ = some (.int .u8 ((l.getD j 0).toNat : Int)) := fun j hj => by
    obtain ⟨b, o, rfl, hc⟩ := hb.at (by omega)
    exact ⟨b, o, rfl, by rw [← numsL_getD l j (by omega)]; exact hc j hj⟩
  have hsz := sub_length l f e hle.2
  rw [hsz]
  rw [hl] at hle
  clear hb hsz
  go_enter Tryz.func39, Tryz.ntmps39
  go_wp2
  go_loop [3] (fun i => ∃ k : Nat, k ≤ f ∧ i = .int .i64 k) (fun i => f - (intOf i).toNat)
  case atStart => exact ⟨0, Nat.zero_le _, rfl⟩
  case round =>
    obtain ⟨k, hk, rfl⟩ := hrel
    by_cases hlt : k < f
    · obtain ⟨b, o, rfl, hck⟩ := hcell k (by omega)
      have hbk : blankB (l.getD k 0) = true := by
        rcases ht with ⟨h1, h2, h3⟩ | ⟨h1, h2, h3, _⟩
        · exact h3 k (by omega)
        · exact h3 k hlt
      have cb := isBlank_any (l.getD k 0)
      rw [hbk] at cb
      clear con hsl hcell ht hbk
      generalize l.getD k 0 = bk at *
      have hkn : k < n := by omega
      go_wp2_with (go_at_call 64; refine (cb _).mono ?_; rintro e w' ⟨rfl, rfl⟩)
      go_round
      case rel => exact ⟨k + 1, by omega, by go_num⟩
      case measure => simp [intOf]; omega
    · obtain rfl : k = f := by omega
      rcases ht with ⟨rfl, rfl, h3⟩ | ⟨h1, h2, h3, h4, h5, h6⟩
      · rw [hl] at hk con hsl hle hlt ⊢
        clear hcell h3
        rw [Nat.sub_self] at con hsl
        go_wp2_with fail
        go_loop [4] (fun i => i = .int .i64 (n : Int)) (fun _ => 0)
        case atStart => rfl
        case round =>
          obtain rfl := hrel
          go_wp2_with fail
          refine con.mono ?_
          rintro e w' ⟨v', rfl, hrow, hbel⟩
          go_wp2
          go_ret
          exact ⟨v', rfl, by first | exact hrow | (rw [Nat.sub_self, hl]; exact hrow), hbel⟩
      · obtain ⟨b, o, rfl, hck⟩ := hcell k (by omega)
        have cb := isBlank_any (l.getD k 0)
        rw [h4] at cb
        clear h4
        generalize l.getD k 0 = bk at *
        have hkn : k < n := by omega
        go_wp2_with fail
        refine (cb _).mono ?_
        rintro e w' ⟨rfl, rfl⟩
        go_wp2_with fail
        clear hck h3 hkn
        go_loop [4] (fun i => ∃ t : Nat, e ≤ t + 1 ∧ t + 1 ≤ n ∧ i = .int .i64 ((t : Int) + 1)) (fun i => (intOf i).toNat - e)
        case atStart => exact ⟨n - 1, by omega, by omega, by congr 1; omega⟩
        case round =>
          obtain ⟨t, ht1, ht2, rfl⟩ := hrel
          obtain ⟨b2, o2, hq2, hct⟩ := hcell t (by omega)
          cases hq2
          have ct := isBlank_any (l.getD t 0)
          have d3 : decide ((k : Int) < (t : Int) + 1) = true := by simp; omega
          by_cases het : e < t + 1
          · rw [h6 t (by omega) (by omega)] at ct
            clear h5 h6 con hsl cb hcell
            generalize l.getD t 0 = bt at *
            go_wp2_with fail
            refine (ct _).mono ?_
            rintro e w' ⟨rfl, rfl⟩
            go_wp2
            go_round
            case rel => exact ⟨t - 1, by omega, by omega, by go_num⟩
            case measure => simp [intOf]; omega
          · obtain rfl : e = t + 1 := by omega
            rw [Nat.add_sub_cancel] at h5
            rw [h5] at ct
            push_cast at hsl
            clear h5 h6 cb hcell
            generalize l.getD t 0 = bt at *
            go_wp2_with fail
            refine (ct _).mono ?_
            rintro e w' ⟨rfl, rfl⟩
            go_wp2_with fail
            refine con.mono ?_
            rintro e w' ⟨v', rfl, hrow, hbel⟩
            go_wp2
            go_ret
            exact ⟨_, rfl, hrow, hbel⟩
end Go.Proofs.YtedglpfdibamdaaGreatDoor
namespace Go.Proofs.YtedglpfdibamdaaGreatDoor.S
open Go.RowKit Go.Shelf
theorem isNaN_any (x : ByteArray) (w : World) : Calls Tryz.prog 178 #[.string x] w fun e w' => e = .returned (.bool false) ∧ w' = w := by
  go_enter Tryz.func178, Tryz.ntmps178
  go_wp2
  go_ret
  exact ⟨by simp, rfl⟩
def cmpS (x y : List UInt8) : Int := if x < y then -1 else if y < x then 1 else 0
theorem cmpS_lt (x y : List UInt8) (h : x < y) : cmpS x y = -1 := by unfold cmpS; rw [if_pos h]
theorem cmpS_gt (x y : List UInt8) (h : y < x) : cmpS x y = 1 := by unfold cmpS; rw [if_neg (lin_asym h), if_pos h]
theorem cmpS_eq (x y : List UInt8) (h : x = y) : cmpS x y = 0 := by unfold cmpS; rw [h, if_neg (Lin.irr y), if_neg (Lin.irr y)]
theorem mk_toList (x : List UInt8) : (⟨x.toArray⟩ : ByteArray).toList = x := by rw [Lib.toList_data]
theorem cmpS_any (x y : List UInt8) (w : World) : Calls Tryz.prog 133 #[.string ⟨x.toArray⟩, .string ⟨y.toArray⟩] w fun e w' => e = .returned (.int .i64 (cmpS x y)) ∧ w' = w := by
  obtain ⟨s, hs⟩ : ∃ s : ByteArray, (⟨x.toArray⟩ : ByteArray) = s := ⟨_, rfl⟩
  obtain ⟨t, ht⟩ : ∃ t : ByteArray, (⟨y.toArray⟩ : ByteArray) = t := ⟨_, rfl⟩
  have hsl : s.toList = x := by rw [← hs]; exact mk_toList x
  have htl : t.toList = y := by rw [← ht]; exact mk_toList y
  have b1 : Op.bytesLess s.toList t.toList = decide (x < y) := by rw [Go.Proofs.bytesLess_eq, hsl, htl]
  have b2 : (s.toList == t.toList) = decide (x = y) := by rw [hsl, htl, Bool.eq_iff_iff, beq_iff_eq]; simp
  rw [hs, ht]
  have con := fun x w => isNaN_any x w
  clear hs ht hsl htl
  rcases Lin.tri x y with h | h | h
  · have H := Lib.hid (cmpS_lt x y h)
    rw [decide_eq_true h] at b1
    clear b2 h
    go_enter Tryz.func133, Tryz.ntmps133
    go_wp2_with fail
    refine (con s _).mono ?_
    rintro e w' ⟨rfl, rfl⟩
    go_wp2_with fail
    refine (con t _).mono ?_
    rintro e w' ⟨rfl, rfl⟩
    go_wp2
    go_ret
    exact ⟨(by rw [H.out]; try rfl), rfl⟩
  · have H := Lib.hid (cmpS_eq x y h)
    rw [decide_eq_false (by rw [h]; exact Lin.irr y)] at b1
    rw [decide_eq_true h] at b2
    clear h
    go_enter Tryz.func133, Tryz.ntmps133
    go_wp2_with fail
    refine (con s _).mono ?_
    rintro e w' ⟨rfl, rfl⟩
    go_wp2_with fail
    refine (con t _).mono ?_
    rintro e w' ⟨rfl, rfl⟩
    go_wp2
    go_ret
    exact ⟨(by rw [H.out]; try rfl), rfl⟩
  · have H := Lib.hid (cmpS_gt x y h)
    rw [decide_eq_false (lin_asym h)] at b1
    rw [decide_eq_false (fun e => Lin.irr y (by rw [e] at h; exact h))] at b2
    clear h
    go_enter Tryz.func133, Tryz.ntmps133
    go_wp2_with fail
    refine (con s _).mono ?_
    rintro e w' ⟨rfl, rfl⟩
    go_wp2_with fail
    refine (con t _).mono ?_
    rintro e w' ⟨rfl, rfl⟩
    go_wp2
    go_ret
    exact ⟨(by rw [H.out]; try rfl), rfl⟩
end Go.Proofs.YtedglpfdibamdaaGreatDoor.S
namespace Go.Proofs.YtedglpfdibamdaaGreatDoor
open Go.RowKit Go.Shelf
def fieldsOf (l : List UInt8) (xs : List (Nat × Nat)) : List (List UInt8) := (xs.filter fun x => decide (x.1 < x.2)).map fun x => sub l x.1 x.2
def fieldsL (l : List UInt8) : List (List UInt8) := fieldsOf l (spansL blankB l)
theorem fieldsOf_some (l : List UInt8) (pre : List (Nat × Nat)) (f k : Nat) (h : f < k) : fieldsOf l (pre ++ [(f, k)]) = fieldsOf l pre ++ [sub l f k] := by
  unfold fieldsOf; simp [List.filter_append, h]
theorem fieldsOf_none (l : List UInt8) (pre : List (Nat × Nat)) (f k : Nat) (h : ¬ f < k) : fieldsOf l (pre ++ [(f, k)]) = fieldsOf l pre := by
  unfold fieldsOf; simp [List.filter_append, h]
theorem fieldsOf_mid (l : List UInt8) (pre : List (Nat × Nat)) (x : Nat × Nat) (rest : List (Nat × Nat)) (hx : spansL blankB l = pre ++ x :: rest) (h : x.1 < x.2) : ∃ r, fieldsL l = fieldsOf l pre ++ sub l x.1 x.2 :: r := by
  refine ⟨fieldsOf l rest, ?_⟩
  unfold fieldsL
  rw [hx]
  unfold fieldsOf
  simp [List.filter_append, h]
end Go.Proofs.YtedglpfdibamdaaGreatDoor
namespace Go.Proofs.YtedglpfdibamdaaGreatDoor.S
open Go.RowKit Go.Shelf
attribute [local go_sem] Oper.semAt_some
theorem whereNext_any (q1 q2 : Option Addr) (n1 c1 n2 c2 : Nat) (xs ys : List (List UInt8)) (w : World) (h1 : SlIn encStr w q1 n1 xs) (h2 : SlIn encStr w q2 n2 ys) (hn1 : n1 ≤ 140737488355328) (hn2 : n2 ≤ 140737488355328) :
    Calls Tryz.prog 206 #[.slice q1 n1 c1, .slice q2 n2 c2] w fun e w' => e = .returned (.int .u8 (whereL xs ys : Nat)) ∧ ∃ k, w' = w.drewN k := by
  have l1 := h1.1
  have l2 := h2.1
  cases ys with
  | nil =>
    obtain rfl : n2 = 0 := by simpa using l2.symm
    have H := Lib.hid (show whereL xs [] = 1 by unfold whereL; rfl)
    clear h1 h2 l1 l2
    go_enter Tryz.func206, Tryz.ntmps206
    go_wp2
    go_ret
    exact ⟨by rw [H.out]; rfl, 0, rfl⟩
  | cons y ys =>
    have z2 : ((n2 : Int) == 0) = false := by rw [beq_eq_false_iff_ne]; simp at l2; omega
    have p2 : 0 < n2 := by simp at l2; omega
    cases xs with
    | nil =>
      obtain rfl : n1 = 0 := by simpa using l1.symm
      have H := Lib.hid (show whereL ([] : List (List UInt8)) (y :: ys) = 2 by unfold whereL; rfl)
      clear h1 h2 l1 l2
      go_enter Tryz.func206, Tryz.ntmps206
      go_wp2
      go_ret
      exact ⟨by rw [H.out]; rfl, 0, rfl⟩
    | cons x xs =>
      have z1 : ((n1 : Int) == 0) = false := by rw [beq_eq_false_iff_ne]; simp at l1; omega
      have p1 : 0 < n1 := by simp at l1; omega
      obtain ⟨b1, o1, rfl, _, k1⟩ := h1.at p1
      obtain ⟨b2, o2, rfl, _, k2⟩ := h2.at p2
      have e1 : w.cell? ⟨b1, o1, none⟩ = some (.string ⟨x.toArray⟩) := k1 0 x rfl
      have e2 : w.cell? ⟨b2, o2, none⟩ = some (.string ⟨y.toArray⟩) := k2 0 y rfl
      clear k1 k2 h1 h2 l1 l2
      rcases Lin.tri x y with hxy | hxy | hxy
      · have H := Lib.hid (show whereL (x :: xs) (y :: ys) = 1 by rw [whereL_cons]; rw [if_pos hxy])
        have con := fun w => cmpS_any x y w
        rw [cmpS_lt x y hxy] at con
        clear hxy
        go_enter Tryz.func206, Tryz.ntmps206
        go_wp2_with (go_quiet ((go_at_call 133; exact Calls.quiet_of_same (con _))))
        go_ret
        exact ⟨by rw [H.out]; rfl, _, rfl⟩
      · have H := Lib.hid (show whereL (x :: xs) (y :: ys) = 3 by rw [whereL_cons, hxy]; rw [if_neg (Lin.irr y), if_neg (Lin.irr y)])
        have con := fun w => cmpS_any x y w
        rw [cmpS_eq x y hxy] at con
        clear hxy
        go_enter Tryz.func206, Tryz.ntmps206
        go_wp2_with (go_quiet ((go_at_call 133; exact Calls.quiet_of_same (con _))))
        go_ret
        exact ⟨by rw [H.out]; rfl, _, rfl⟩
      · have H := Lib.hid (show whereL (x :: xs) (y :: ys) = 2 by rw [whereL_cons]; rw [if_neg (lin_asym hxy), if_pos hxy])
        have con := fun w => cmpS_any x y w
        rw [cmpS_gt x y hxy] at con
        clear hxy
        go_enter Tryz.func206, Tryz.ntmps206
        go_wp2_with (go_quiet ((go_at_call 133; exact Calls.quiet_of_same (con _))))
        go_ret
        exact ⟨by rw [H.out]; rfl, _, rfl⟩
theorem run_slice_tail (q : Option Addr) (n c : Nat) (W : World) (hn : 0 < n) (_hnc : n ≤ c) :
    (Instr.slice 73 (.slice q n c) (some (.int .i64 1)) none none).run Tryz.prog W = .ok (.slice (tlA q c) (n - 1) (c - 1)) W := by
  have hs : ∀ w, (Go.sizeOf 9).run Tryz.prog w = .ok 1 w := Tryz.sizeOf9
  have he : Tryz.prog.elem 73 = 9 := by kernel_rfl
  have h := run_slice_l (P := Tryz.prog) (w := W) 73 q n c (by rw [he]; exact Tryz.underlying73) .i64 1 (by omega) (by omega)
  rw [h, he, hs]
  simp only [Result.andThen, sliced, tlA]
  try congr 2
set_option maxRecDepth 100000 in
set_option maxHeartbeats 2000000 in
theorem both1_iter (B1 B2 : Nat) (q1 q2 : Option Addr) (n1 c1 n2 c2 : Nat) (xs ys : List (List UInt8)) (RB : Nat → Prop) (w0 : World) (hn1 : n1 ≤ c1) (hn2 : n2 ≤ c2) (hm1 : n1 ≤ 140737488355328) (hm2 : n2 ≤ 140737488355328)
    (h1 : SlIn encStr w0 q1 n1 xs) (h2 : SlIn encStr w0 q2 n2 ys) (hq1 : ∀ a, q1 = some a → 0 < n1 → RB a.block) (hq2 : ∀ a, q2 = some a → 0 < n2 → RB a.block)
    (b1 : Boxed w0 B1 75 (.slice q1 n1 c1)) (b2 : Boxed w0 B2 75 (.slice q2 n2 c2)) (hR1 : RB B1) (hR2 : RB B2) :
    IterC Tryz.prog 205 #[.pointer (some ⟨B1, 0, none⟩), .pointer (some ⟨B2, 0, none⟩)] (WhArg encStr) (mrg xs ys) RB w0 := by
  intro l J Jx W hW hJ hJx hY h0
  refine (callsIn_wide (n := 1)).1 ?_
  refine callsIn_of_wp Tryz.func205 rfl trivial ?_ rfl
  simp only [Tryz.ntmps205, List.size_toArray, List.length_cons, List.length_nil, Nat.reduceAdd, Nat.reduceSub, Array.replicate_succ, Array.replicate_zero, List.push_toArray, List.append_toArray, List.nil_append, List.cons_append]
  have k1 := (hW.boxed b1 hR1).cell
  have k2 := (hW.boxed b2 hR2).cell
  gi_wp2_with (gi_quiet (fail))
  gi_loopw [4, 5] (fun this that wr => BothI encStr RB W (mrg xs ys) J this that wr) (fun this that _ => slen this + slen that)
  case atStart =>
    exact ⟨q1, n1, c1, xs, q2, n2, c2, ys, [], rfl, rfl, hn1, hn2, hm1, hm2, (h1.keep hW hq1).drewN _, (h2.keep hW hq2).drewN _, hq1, hq2, Keep.drewN _ _ _, rfl, hJ _ _ _ _ _ h0 (Keep.drewN _ _ _) (fun _ h => h.elim)⟩
  case round =>
    clear h1 h2 hn1 hn2 hm1 hm2 hq1 hq2 b1 b2 k1 k2 h0
    obtain ⟨q1, n1, c1, ts, q2, n2, c2, us, pre, rfl, rfl, hn1, hn2, hm1, hm2, h1, h2, hq1, hq2, hK, HX, hJr⟩ := hrel
    have hl1 := h1.1
    have hl2 := h2.1
    by_cases hz : ts ≠ [] ∨ us ≠ []
    · obtain ⟨x, ts', us', hcase⟩ := mrg_step ts us hz
      have con := whereNext_any q1 q2 n1 c1 n2 c2 ts us wr h1 h2 hm1 hm2
      rcases hcase with ⟨hw, hm, rfl, rfl⟩ | ⟨hw, hm, rfl, rfl⟩ | ⟨hw, hm, rfl, y, rfl⟩
      · rw [hw] at con
        have p1 : 0 < n1 := by simp at hl1; omega
        have p1' : decide ((0 : Int) < (n1 : Int)) = true := by simp; omega
        obtain ⟨b1, o1, rfl, _, k1⟩ := h1.at p1
        have e1 : wr.cell? ⟨b1, o1, none⟩ = some (.string ⟨x.toArray⟩) := k1 0 x rfl
        have hsl1 := fun W => run_slice_tail (some ⟨b1, o1, none⟩) n1 c1 W p1 hn1
        have t1 := h1.tail hn1
        have hq1' := tlA_blk (c := c1) hq1
        generalize tlA (some ⟨b1, o1, none⟩) c1 = q1' at hsl1 t1 hq1'
        have HX2 := Lib.hid (show mrg xs ys = pre ++ (1, x) :: mrg ts' us' by rw [HX.out, hm])
        have t2 := h2
        have hq2' := hq2
        clear k1 hw hm HX hl1 hl2 hz h1 h2 hq1 hq2
        gi_wp2_with fail
        refine ⟨trivial, (callsIn_wide.2 con).mono ?_⟩
        rintro e w' ⟨rfl, k, rfl⟩
        gi_wp2_with (gi_quiet (fail))
        obtain ⟨fn, tmps, assign, body, hy, hR⟩ := hY pre (1, x) _ (fun _ => False) (fun _ => False) #[.int .u8 1, .string ⟨x.toArray⟩] (wr.drewN (k + nq)) HX2.out (hJ _ _ _ _ _ hJr (Keep.drewN _ _ _) (fun _ h => h.elim)) (fun _ h => h.elim) ⟨rfl, rfl⟩ (fun _ h => h)
        rw [hy]
        clear hY hy con
        simp only [Oper.uponIn]
        refine ⟨fun _ => Nat.le_refl _, RoundIn.mono hR ?_⟩
        rintro e W3 ⟨hk3, (⟨rfl, hJ3⟩ | ⟨rfl, hJx3⟩)⟩
        · have hK3 : Keep RB wr W3 := (Keep.drewN RB wr (k + nq)).trans (hk3.mono fun _ _ h => .inl h)
          clear hR
          gi_wp2
          go_roundw
          case rel => exact ⟨q1', n1 - 1, c1 - 1, ts', q2, n2, c2, us', pre ++ [(1, x)], rfl, rfl, by omega, by omega, by omega, by omega, t1.keep hK3 hq1', t2.keep hK3 hq2', hq1', hq2', hK.trans hK3, Lib.hid (by rw [HX2.out]; simp), hJ _ _ _ _ _ hJ3 (Keep.refl _ _) (fun _ h => h.elim)⟩
          case measure => simp [slen]; omega
        · gi_wp2
          refine bodyPost_ret (results_none rfl _ _ _) rfl ?_
          exact ⟨⟨_, rfl⟩, fun _ => False, fun _ h => h.elim, .inr ⟨pre ++ [(1, x)], _, by rw [HX2.out, List.append_assoc]; rfl, hJx _ _ _ _ _ hJx3 (Keep.refl _ _) (fun _ h => h.elim)⟩⟩
      · rw [hw] at con
        have p2 : 0 < n2 := by simp at hl2; omega
        have p2' : decide ((0 : Int) < (n2 : Int)) = true := by simp; omega
        obtain ⟨b2, o2, rfl, _, k2⟩ := h2.at p2
        have e2 : wr.cell? ⟨b2, o2, none⟩ = some (.string ⟨x.toArray⟩) := k2 0 x rfl
        have hsl2 := fun W => run_slice_tail (some ⟨b2, o2, none⟩) n2 c2 W p2 hn2
        have t2 := h2.tail hn2
        have hq2' := tlA_blk (c := c2) hq2
        generalize tlA (some ⟨b2, o2, none⟩) c2 = q2' at hsl2 t2 hq2'
        have HX2 := Lib.hid (show mrg xs ys = pre ++ (2, x) :: mrg ts' us' by rw [HX.out, hm])
        have t1 := h1
        have hq1' := hq1
        clear k2 hw hm HX hl2 hz h1 h2 hq1 hq2
        by_cases hc0 : 0 < n1
        · have p1' : decide ((0 : Int) < (n1 : Int)) = true := by simp; omega
          clear hl1
          gi_wp2_with fail
          refine ⟨trivial, (callsIn_wide.2 con).mono ?_⟩
          rintro e w' ⟨rfl, k, rfl⟩
          gi_wp2_with (gi_quiet (fail))
          obtain ⟨fn, tmps, assign, body, hy, hR⟩ := hY pre (2, x) _ (fun _ => False) (fun _ => False) #[.int .u8 2, .string ⟨x.toArray⟩] (wr.drewN (k + nq)) HX2.out (hJ _ _ _ _ _ hJr (Keep.drewN _ _ _) (fun _ h => h.elim)) (fun _ h => h.elim) ⟨rfl, rfl⟩ (fun _ h => h)
          rw [hy]
          clear hY hy con
          simp only [Oper.uponIn]
          refine ⟨fun _ => Nat.le_refl _, RoundIn.mono hR ?_⟩
          rintro e W3 ⟨hk3, (⟨rfl, hJ3⟩ | ⟨rfl, hJx3⟩)⟩
          · have hK3 : Keep RB wr W3 := (Keep.drewN RB wr (k + nq)).trans (hk3.mono fun _ _ h => .inl h)
            clear hR
            gi_wp2
            go_roundw
            case rel => exact ⟨q1, n1, c1, ts', q2', n2 - 1, c2 - 1, us', pre ++ [(2, x)], rfl, rfl, by omega, by omega, by omega, by omega, t1.keep hK3 hq1', t2.keep hK3 hq2', hq1', hq2', hK.trans hK3, Lib.hid (by rw [HX2.out]; simp), hJ _ _ _ _ _ hJ3 (Keep.refl _ _) (fun _ h => h.elim)⟩
            case measure => simp [slen]; omega
          · gi_wp2
            refine bodyPost_ret (results_none rfl _ _ _) rfl ?_
            exact ⟨⟨_, rfl⟩, fun _ => False, fun _ h => h.elim, .inr ⟨pre ++ [(2, x)], _, by rw [HX2.out, List.append_assoc]; rfl, hJx _ _ _ _ _ hJx3 (Keep.refl _ _) (fun _ h => h.elim)⟩⟩
        · obtain rfl : n1 = 0 := by omega
          have p1' : decide ((0 : Int) < ((0 : Nat) : Int)) = false := by simp
          clear hl1
          gi_wp2_with fail
          refine ⟨trivial, (callsIn_wide.2 con).mono ?_⟩
          rintro e w' ⟨rfl, k, rfl⟩
          gi_wp2_with (gi_quiet (fail))
          obtain ⟨fn, tmps, assign, body, hy, hR⟩ := hY pre (2, x) _ (fun _ => False) (fun _ => False) #[.int .u8 2, .string ⟨x.toArray⟩] (wr.drewN (k + nq)) HX2.out (hJ _ _ _ _ _ hJr (Keep.drewN _ _ _) (fun _ h => h.elim)) (fun _ h => h.elim) ⟨rfl, rfl⟩ (fun _ h => h)
          rw [hy]
          clear hY hy con
          simp only [Oper.uponIn]
          refine ⟨fun _ => Nat.le_refl _, RoundIn.mono hR ?_⟩
          rintro e W3 ⟨hk3, (⟨rfl, hJ3⟩ | ⟨rfl, hJx3⟩)⟩
          · have hK3 : Keep RB wr W3 := (Keep.drewN RB wr (k + nq)).trans (hk3.mono fun _ _ h => .inl h)
            clear hR
            gi_wp2
            go_roundw
            case rel => exact ⟨q1, 0, c1, ts', q2', n2 - 1, c2 - 1, us', pre ++ [(2, x)], rfl, rfl, by omega, by omega, by omega, by omega, t1.keep hK3 hq1', t2.keep hK3 hq2', hq1', hq2', hK.trans hK3, Lib.hid (by rw [HX2.out]; simp), hJ _ _ _ _ _ hJ3 (Keep.refl _ _) (fun _ h => h.elim)⟩
            case measure => simp [slen]; omega
          · gi_wp2
            refine bodyPost_ret (results_none rfl _ _ _) rfl ?_
            exact ⟨⟨_, rfl⟩, fun _ => False, fun _ h => h.elim, .inr ⟨pre ++ [(2, x)], _, by rw [HX2.out, List.append_assoc]; rfl, hJx _ _ _ _ _ hJx3 (Keep.refl _ _) (fun _ h => h.elim)⟩⟩
      · rw [hw] at con
        have p1 : 0 < n1 := by simp at hl1; omega
        have p1' : decide ((0 : Int) < (n1 : Int)) = true := by simp; omega
        obtain ⟨b1, o1, rfl, _, k1⟩ := h1.at p1
        have e1 : wr.cell? ⟨b1, o1, none⟩ = some (.string ⟨x.toArray⟩) := k1 0 x rfl
        have hsl1 := fun W => run_slice_tail (some ⟨b1, o1, none⟩) n1 c1 W p1 hn1
        have t1 := h1.tail hn1
        have hq1' := tlA_blk (c := c1) hq1
        generalize tlA (some ⟨b1, o1, none⟩) c1 = q1' at hsl1 t1 hq1'
        have p2 : 0 < n2 := by simp at hl2; omega
        have p2' : decide ((0 : Int) < (n2 : Int)) = true := by simp; omega
        obtain ⟨b2, o2, rfl, _, k2⟩ := h2.at p2
        have e2 : wr.cell? ⟨b2, o2, none⟩ = some (.string ⟨y.toArray⟩) := k2 0 y rfl
        have hsl2 := fun W => run_slice_tail (some ⟨b2, o2, none⟩) n2 c2 W p2 hn2
        have t2 := h2.tail hn2
        have hq2' := tlA_blk (c := c2) hq2
        generalize tlA (some ⟨b2, o2, none⟩) c2 = q2' at hsl2 t2 hq2'
        have HX2 := Lib.hid (show mrg xs ys = pre ++ (3, x) :: mrg ts' us' by rw [HX.out, hm])
        clear k1 k2 hw hm HX hl1 hl2 hz h1 h2 hq1 hq2
        gi_wp2_with fail
        refine ⟨trivial, (callsIn_wide.2 con).mono ?_⟩
        rintro e w' ⟨rfl, k, rfl⟩
        gi_wp2_with (gi_quiet (fail))
        refine uponIn_yield (hY pre (3, x) _ (fun _ => False) (fun _ => False) #[.int .u8 3, .string ⟨x.toArray⟩] _ HX2.out (hJ _ _ _ _ _ hJr (Keep.drewN _ _ _) (fun _ h => h.elim)) (fun _ h => h.elim) ⟨rfl, rfl⟩ (fun _ h => h)) ?_ ?_ ?_
        rotate_left
        · rintro c w ⟨_, ⟨h, _⟩ | ⟨h, _⟩⟩ <;> cases h
        · rintro w ⟨_, ⟨h, _⟩ | ⟨h, _⟩⟩ <;> cases h
        clear hY con
        rintro v W3 ⟨hk3, (⟨he, hJ3⟩ | ⟨he, hJx3⟩)⟩
        all_goals cases he
        · have hK3 : Keep RB wr W3 := (Keep.drewN RB wr _).trans (hk3.mono fun _ _ h => .inl h)
          gi_wp2
          go_roundw
          case rel => exact ⟨q1', n1 - 1, c1 - 1, ts', q2', n2 - 1, c2 - 1, us', pre ++ [(3, x)], rfl, rfl, by omega, by omega, by omega, by omega, t1.keep hK3 hq1', t2.keep hK3 hq2', hq1', hq2', hK.trans hK3, Lib.hid (by rw [HX2.out]; simp), hJ _ _ _ _ _ hJ3 (Keep.refl _ _) (fun _ h => h.elim)⟩
          case measure => simp [slen]; omega
        · gi_wp2
          refine bodyPost_ret (results_none rfl _ _ _) rfl ?_
          exact ⟨⟨_, rfl⟩, fun _ => False, fun _ h => h.elim, .inr ⟨pre ++ [(3, x)], _, by rw [HX2.out, List.append_assoc]; rfl, hJx _ _ _ _ _ hJx3 (Keep.refl _ _) (fun _ h => h.elim)⟩⟩
    · obtain ⟨rfl, rfl⟩ : ts = [] ∧ us = [] := by
        constructor
        · exact Classical.byContradiction fun h => hz (.inl h)
        · exact Classical.byContradiction fun h => hz (.inr h)
      obtain rfl : n1 = 0 := by simpa using hl1.symm
      obtain rfl : n2 = 0 := by simpa using hl2.symm
      have HX2 := Lib.hid (show mrg xs ys = pre by rw [HX.out]; unfold mrg; simp)
      clear hY h1 h2 hl1 hl2 hz HX
      gi_wp2
      refine bodyPost_end (results_none rfl _ _ _) rfl ?_
      exact ⟨⟨_, rfl⟩, fun _ => False, fun _ h => h.elim, .inl (by rw [HX2.out]; exact hJr)⟩
end Go.Proofs.YtedglpfdibamdaaGreatDoor.S
namespace Go.Proofs.YtedglpfdibamdaaGreatDoor.S
open Go.RowKit Go.Shelf
attribute [local go_sem] Oper.semAt_some
theorem both_any (q1 q2 : Option Addr) (n1 c1 n2 c2 : Nat) (w : World) :
    Calls Tryz.prog 183 #[.agg #[.slice q1 n1 c1], .agg #[.slice q2 n2 c2]] w fun e w' => e = .returned (.func (.func 205) #[] #[.pointer (some ⟨w.heap.size, 0, none⟩), .pointer (some ⟨w.heap.size + 1, 0, none⟩)]) ∧
      w' = (w.alloc (.cells #[.slice q1 n1 c1] 75)).alloc (.cells #[.slice q2 n2 c2] 75) := by
  go_enter Tryz.func183, Tryz.ntmps183
  go_wp2
  go_ret
  exact ⟨rfl, rfl⟩
theorem info_str : (Tryz.prog.info? 9).map (fun i => (i.zero, i.size, i.bytes)) = some (some (.string ByteArray.empty), 1, 16) := by kernel_rfl
end Go.Proofs.YtedglpfdibamdaaGreatDoor.S
namespace Go.Proofs.YtedglpfdibamdaaGreatDoor
open Go.RowKit Go.Shelf
attribute [local go_sem] Oper.semAt_some
theorem three_boxes (W : World) (t0 t1 t2 : TypeId) (v0 v1 v2 : Value) :
    ∃ W1, (((W.alloc (.cells #[v0] t0)).alloc (.cells #[v1] t1)).alloc (.cells #[v2] t2)) = W1 ∧
      Boxed W1 W.heap.size t0 v0 ∧ Boxed W1 (W.heap.size + 1) t1 v1 ∧ Boxed W1 (W.heap.size + 1 + 1) t2 v2 ∧ W1.heap.size = W.heap.size + 3 ∧ ∀ S, Keep S W W1 := by
  refine ⟨_, rfl, ?_, ?_, ?_, ?_, fun S => ?_⟩
  · exact ((Boxed.new W t0 v0).alloc _).alloc _
  · have := (Boxed.new (W.alloc (.cells #[v0] t0)) t1 v1).alloc (.cells #[v2] t2)
    rwa [World.size_alloc] at this
  · have := Boxed.new ((W.alloc (.cells #[v0] t0)).alloc (.cells #[v1] t1)) t2 v2
    rwa [World.size_alloc, World.size_alloc] at this
  · simp
  · exact ((Keep.alloc S _ _).trans (Keep.alloc S _ _)).trans (Keep.alloc S _ _)
theorem anyH_skip {F : Fence} {n : Nat} {P : Program} {ops : Array Oper} {Q : Exit → Act → World → Prop} {md : Region.Mode} {S : World → Prop} (i : Nat) {fuel : Nat} {listed : Array Bool} {a : Act} {w : World} {o : Oper}
    (hr : Region.ready md ops listed = [i]) (ho : ops[i]? = some o) (hw : Region.wanted o (yielded ops a.tmps) = false) (hF : ∀ f, F.fn f) (hS : S w)
    (h : anyH F n P md ops Q S fuel (listed.setIfInBounds i true) (a.put o.dst undef) w) : anyH F n P md ops Q S (fuel + 1) listed a w :=
  anyH_one i hr ho fun K hK => by
    rw [if_neg (by rw [hw]; simp)]
    exact ⟨fun f _ => hF f, hK _ _ hS h⟩
theorem isBlank_tests (RB : Nat → Prop) (w0 : World) : Tests Tryz.prog 64 #[] blankB RB w0 :=
  ⟨enters_of Tryz.func64 (by kernel_rfl) rfl, fun b W _ => isBlank_any b W⟩
theorem Fields_any (q : Option Addr) (n c : Nat) (l : List UInt8) (w : World) (hl : l.length = n) (hn : n ≤ 140737488355328) (h : Lib.BytesIn w q n (Lib.numsL l)) :
    Calls Tryz.prog 40 #[.slice q n c] w fun e w' => ∃ B v', e = .returned (.func (.func 65) #[] #[.pointer (some ⟨B, 0, none⟩)]) ∧
      Boxed w' B 22 v' ∧ w'.ownsRow w.heap.size 5 1 v' n ((Lib.numsL l).map (Value.int .u8)) ∧ w.heap.size ≤ B ∧ Below w.heap.size w w' := by
  have hcon := Clone_any q n c l w hl hn h
  clear h
  go_enter Tryz.func40, Tryz.ntmps40
  go_wp2_with fail
  refine hcon.mono ?_
  rintro e w1 ⟨v', rfl, hrow, hbel⟩
  obtain ⟨q', c', rfl, _, _, _, _, hblk⟩ := row_open hrow
  go_wp2
  go_ret
  refine ⟨w1.heap.size, _, rfl, Boxed.new w1 _ _, hrow.alloc _, hbel.size, hbel.alloc hbel.size _⟩
set_option maxRecDepth 100000 in
set_option maxHeartbeats 4000000 in
theorem Fields1_iter (B : Nat) (q : Option Addr) (n c : Nat) (l : List UInt8) (RB : Nat → Prop) (w0 : World)
    (hl : l.length = n) (hn : n ≤ 140737488355328) (hnc : n ≤ c) (hb : Lib.BytesIn w0 q n (Lib.numsL l)) (hq : ∀ a, q = some a → 0 < n → RB a.block)
    (hB : Boxed w0 B 22 (.slice q n c)) (hRB : RB B) (hRs : ∀ b, RB b → b < w0.heap.size) :
    IterC Tryz.prog 65 #[.pointer (some ⟨B, 0, none⟩)] RowArg (fieldsL l) RB w0 := by
  intro l' J Jx W hW hJ hJx hY h0
  refine (callsIn_wide (n := 1)).1 ?_
  refine callsIn_of_wp_marks Tryz.func65 rfl trivial ?_ rfl
  simp only [Tryz.ntmps65, List.size_toArray, List.length_cons, List.length_nil, Nat.reduceAdd, Nat.reduceSub, Array.replicate_succ, Array.replicate_zero, List.push_toArray, List.append_toArray, List.nil_append, List.cons_append]
  have bB := (hW.boxed hB hRB).cell
  have bB1 : ∀ o, (W.alloc o).cell? ⟨B, 0, none⟩ = some (.slice q n c) := fun o => ((hW.boxed hB hRB).alloc o).cell
  gi_wp2_with fail
  refine ⟨trivial, (callsIn_wide.2 (spans_any _ _ _ _ _ _)).mono ?_⟩
  rintro e w' ⟨rfl, rfl⟩
  gi_wp2
  obtain ⟨W1, hW1, a0, a1, a2, hsz, hk1⟩ := three_boxes W 126 22 125 (.func (.yield l') #[] #[]) (.slice q n c) (.func (.func 64) #[] #[])
  rw [hW1]
  clear hW1 bB1 bB
  obtain ⟨RBin, hRBin⟩ : ∃ RBin : Nat → Prop, RBin = fun b => RB b ∨ b = W.heap.size ∨ b = W.heap.size + 1 ∨ b = W.heap.size + 1 + 1 := ⟨_, rfl⟩
  obtain ⟨Ow, hOw⟩ : ∃ Ow : Nat → Prop, Ow = fun b => b = W.heap.size ∨ b = W.heap.size + 1 ∨ b = W.heap.size + 1 + 1 := ⟨_, rfl⟩
  have hW0 := hW.size
  have hRl : ∀ b, RBin b → b < W1.heap.size := fun b hb => by rw [hRBin] at hb; rcases hb with hb | hb; (have := hRs b hb; omega); omega
  have hRBo : ∀ b, RB b → RBin b := fun b hb => by rw [hRBin]; exact .inl hb
  have hOwR : ∀ b, RBin b → RB b ∨ Ow b := fun b hb => by rw [hRBin] at hb; rw [hOw]; exact hb
  have hOwI : ∀ b, Ow b → RBin b := fun b hb => by rw [hRBin]; rw [hOw] at hb; exact .inr hb
  have hOwl : ∀ b, Ow b → W.heap.size ≤ b ∧ b < W1.heap.size := fun b hb => by rw [hOw] at hb; omega
  have o0 : Ow W.heap.size := by rw [hOw]; exact .inl rfl
  have o1 : Ow (W.heap.size + 1) := by rw [hOw]; exact .inr (.inl rfl)
  have o2 : Ow (W.heap.size + 1 + 1) := by rw [hOw]; exact .inr (.inr rfl)
  clear hRBin hOw
  have hb1 : Lib.BytesIn W1 q n (Lib.numsL l) := fun h => by
    obtain ⟨b, o, rfl, hc⟩ := hb.at h
    exact ⟨b, o, rfl, fun i hi => (World.cell?_of_block ((hW.trans (hk1 RB)).block b (World.block_lt_of_cell? w0 _ (hc i hi)) (hq _ rfl h))).trans (hc i hi)⟩
  have aB := (hW.trans (hk1 RB)).boxed hB hRB
  refine rf_law (gf := 100) (lb := #[.pointer (some ⟨W.heap.size + 1, 0, none⟩), .pointer (some ⟨W.heap.size + 1 + 1, 0, none⟩)]) rfl (enters_of Tryz.func100 (by kernel_rfl) rfl)
    (spans1_iter (W.heap.size + 1) (W.heap.size + 1 + 1) q n c 64 #[] l blankB RBin W1 hl hn hb1 (fun a h1 h2 => hRBo _ (hq a h1 h2)) a1 a2 (hOwI _ o1) (hOwI _ o2)
      (isBlank_tests RBin W1)) (Keep.refl _ _) hRl (fun x args G W h => by rw [h.1]; rfl)
    (AdI RBin Ow W1 J (fieldsOf l) (fun _ _ => True)) (AdX J Jx (fieldsL l)) (AdI_abide hJ hRl (fun _ _ _ _ h => h)) (AdX_abide hJ hJx)
    ⟨Keep.refl _ _, (fun _ h => h.elim), trivial, Ow, hJ _ _ _ _ _ h0 (hk1 _) (fun b hb => ⟨.inr (hOwl b hb).1, (hOwl b hb).2⟩), (fun _ h => h.elim), (fun _ h => h), (fun b hb => (hOwl b hb).2)⟩ ?round ?done ?stop
  case round =>
    rintro ll pre ⟨f, t⟩ rest Pv G args Wr hll hxs ⟨hKI, hge, _, Q, hj, hPQ, hOQ, hQl⟩ hPl hGl hPb hGP ⟨rfl, rfl⟩
    gi_wp2
    refine ⟨Keep.refl _ _, fun W2 hk2 hs2 r hr => ?_⟩
    have hbd := spansL_bounds blankB l (f, t) (by rw [hxs]; simp)
    simp only at hbd
    have hlW : W1.heap.size ≤ ll := hge ll hPl
    have j2 : J (fieldsOf l pre) Q W2 := hJ _ _ _ _ _ hj (hk2.mono fun b _ hb => by rintro rfl; exact hb (hPQ _ hPl)) fun b hb => ⟨.inl hb, by have := hQl b hb; omega⟩
    have k2 : Keep RBin W1 W2 := hKI.trans (hk2.mono fun b _ hb => by have := hRl b hb; omega)
    have hQ2 : ∀ b, Q b → b < W2.heap.size := fun b hb => by have := hQl b hb; omega
    have b0 := k2.boxed a0 (hOwI _ o0)
    have bB := k2.boxed aB (hRBo _ hRB)
    have c0 : W2.drew.cell? ⟨W.heap.size, 0, none⟩ = some (.func (.yield l') #[] #[]) := b0.cell
    have cB : W2.drew.cell? ⟨B, 0, none⟩ = some (.slice q n c) := bB.cell
    have hsl := run_slice_sub q n c f t
    by_cases hf : f < t
    · have hT : decide ((f : Int) < (t : Int)) = true := by simp; omega
      obtain ⟨r, hys⟩ := fieldsOf_mid l pre (f, t) rest hxs hf
      have key := fun (w4 : World) (v4 : Value) (m : Nat) => yield_row (w4 := w4) (v4 := v4) (n := m) hJ hY hys j2 hQ2
      have hbs : Lib.BytesIn W2.drew (subA q c f) (t - f) (Lib.numsL (sub l f t)) := bytes_keep (bytes_sub (bytes_keep hb1 k2 (fun a h1 h2 => hRBo _ (hq a h1 h2))) hl hbd.1 (by omega) hnc) (Keep.drew (fun _ => True) _) (fun _ _ _ => trivial)
      have hm := sub_length l f t hbd.2
      have con2 := Clone_any (subA q c f) (t - f) (c - f) (sub l f t) W2.drew hm (by omega) hbs
      have hys' := hys
      have hf' := hf
      obtain ⟨y, HYY⟩ : ∃ y, Hid (y = sub l f t) := ⟨_, rfl⟩
      simp only at hys key
      rw [← HYY.out] at con2 key hm
      have hft : f ≤ t := hbd.1
      have htc : t ≤ c := by omega
      have HSL := fun W => hsl W hft htc
      have after : ∀ w4 v4, w4.ownsRow W2.heap.size 5 1 v4 (t - f) ((Lib.numsL y).map (Value.int .u8)) → Below W2.heap.size W2.drew w4 →
          w4.cell? ⟨W.heap.size, 0, none⟩ = some (.func (.yield l') #[] #[]) ∧ w4.cell? ⟨B, 0, none⟩ = some (.slice q n c) ∧ YieldAt Fence.wide 0 Tryz.prog l' #[v4] w4 fun e W' => ∃ ok : Bool, e = .returned (.bool ok) ∧ RowPost J Jx (fieldsOf l pre ++ [y]) RB Q W2 ok W' := by
        intro w4 v4 h1 h2
        have hbw : Below W2.heap.size W2 w4 := ((Below.refl _ W2).drew).trans h2
        exact ⟨((Keep.of_below hbw).boxed b0 b0.lt).cell, ((Keep.of_below hbw).boxed bB bB.lt).cell, key w4 v4 (t - f) hbw (by first | exact hm | exact hm.symm) h1⟩
      clear key hbs hbd hb1 hf hxs hys hsl hY hb hq hm
      gi_wp2_with fail
      refine region_any (fun w => w.cell? ⟨W.heap.size, 0, none⟩ = some (.func (.yield l') #[] #[]) ∧ w.cell? ⟨B, 0, none⟩ = some (.slice q n c)) (by kernel_rfl) ?_
      refine anyH_take 0 (v := .int .i64 f) rfl (by kernel_rfl) (by kernel_rfl) (by kernel_rfl) (by kernel_rfl) (fun _ _ _ h => h) ⟨.inl ⟨by kernel_rfl, ?_⟩, fun _ => rfl⟩ ⟨c0, cB⟩ ?_
      · rintro w ⟨h1, h2⟩; go_simp
      refine anyH_take 1 (v := .int .i64 t) rfl (by kernel_rfl) (by kernel_rfl) (by kernel_rfl) (by kernel_rfl) (fun _ _ _ h => h) ⟨.inl ⟨by kernel_rfl, ?_⟩, fun _ => rfl⟩ ⟨c0, cB⟩ ?_
      · rintro w ⟨h1, h2⟩; go_simp
      refine anyH_take 2 (v := .bool true) rfl (by kernel_rfl) (by kernel_rfl) (by kernel_rfl) (by kernel_rfl) (fun _ _ _ h => h) ⟨.inl ⟨by kernel_rfl, ?_⟩, fun _ => rfl⟩ ⟨c0, cB⟩ ?_
      · rintro w ⟨h1, h2⟩; go_simp
      refine anyH_take 3 (v := .bool true) rfl (by kernel_rfl) (by kernel_rfl) (by kernel_rfl) (by kernel_rfl) (fun _ _ _ h => h) ⟨.inl ⟨by kernel_rfl, ?_⟩, fun _ => rfl⟩ ⟨c0, cB⟩ ?_
      · rintro w ⟨h1, h2⟩; go_simp
      refine anyH_take 4 (v := .func (.yield l') #[] #[]) rfl (by kernel_rfl) (by kernel_rfl) (by kernel_rfl) (by kernel_rfl) (fun _ _ _ h => h) ⟨.inl ⟨by kernel_rfl, ?_⟩, fun _ => rfl⟩ ⟨c0, cB⟩ ?_
      · rintro w ⟨h1, h2⟩; go_simp
      refine anyH_take 5 (v := .slice q n c) rfl (by kernel_rfl) (by kernel_rfl) (by kernel_rfl) (by kernel_rfl) (fun _ _ _ h => h) ⟨.inl ⟨by kernel_rfl, ?_⟩, fun _ => rfl⟩ ⟨c0, cB⟩ ?_
      · rintro w ⟨h1, h2⟩; go_simp
      refine anyH_take 6 (v := .int .i64 f) rfl (by kernel_rfl) (by kernel_rfl) (by kernel_rfl) (by kernel_rfl) (fun _ _ _ h => h) ⟨.inl ⟨by kernel_rfl, ?_⟩, fun _ => rfl⟩ ⟨c0, cB⟩ ?_
      · rintro w ⟨h1, h2⟩; go_simp
      refine anyH_take 7 (v := .int .i64 t) rfl (by kernel_rfl) (by kernel_rfl) (by kernel_rfl) (by kernel_rfl) (fun _ _ _ h => h) ⟨.inl ⟨by kernel_rfl, ?_⟩, fun _ => rfl⟩ ⟨c0, cB⟩ ?_
      · rintro w ⟨h1, h2⟩; go_simp
      refine anyH_take 8 (v := .slice (subA q c f) (t - f) (c - f)) rfl (by kernel_rfl) (by kernel_rfl) (by kernel_rfl) (by kernel_rfl) (fun _ _ _ h => h) ⟨.inl ⟨by kernel_rfl, ?_⟩, fun _ => rfl⟩ ⟨c0, cB⟩ ?_
      · rintro w ⟨h1, h2⟩; go_simp
      refine anyH_one 9 (by kernel_rfl) rfl fun K hK => ?_
      go_simp
      refine ⟨trivial, rfl, (CallsIn.inRound ll (callsIn_wide.2 con2)).mono ?_⟩
      rintro e w4 ⟨v4, rfl, hrow4, hbel4⟩
      rw [drew_size] at hrow4 hbel4
      obtain ⟨d0, dB, fn, tmps, assign, body, hy, hR⟩ := after w4 v4 hrow4 hbel4
      refine hK _ _ ⟨d0, dB⟩ ?_
      clear hK K
      refine anyH_one 10 (by kernel_rfl) rfl fun K hK => ?_
      go_simp
      refine ⟨rfl, RoundIn.mono hR ?_⟩
      rintro e W5 ⟨ok, rfl, hpost⟩
      refine hK _ _ ⟨(hpost.1.boxed b0 (.inr (hOQ _ o0))).cell, (hpost.1.boxed bB (.inl hRB)).cell⟩ ?_
      clear hK K
      refine anyH_take 11 (v := .bool (!ok)) rfl (by kernel_rfl) (by kernel_rfl) (by kernel_rfl) (by kernel_rfl) (fun _ _ _ h => h) ⟨.inl ⟨by kernel_rfl, ?_⟩, fun _ => rfl⟩ ⟨(hpost.1.boxed b0 (.inr (hOQ _ o0))).cell, (hpost.1.boxed bB (.inl hRB)).cell⟩ ?_
      · rintro w ⟨h1, h2⟩; go_simp
      refine anyH_take 12 (v := .bool (!ok)) rfl (by kernel_rfl) (by kernel_rfl) (by kernel_rfl) (by kernel_rfl) (fun _ _ _ h => h) ⟨.inl ⟨by kernel_rfl, ?_⟩, fun _ => rfl⟩ ⟨(hpost.1.boxed b0 (.inr (hOQ _ o0))).cell, (hpost.1.boxed bB (.inl hRB)).cell⟩ ?_
      · rintro w ⟨h1, h2⟩; go_simp
      refine anyH_done (by kernel_rfl) ?_ _
      obtain ⟨hkp, Q', hQQ, hQl', hpost⟩ := hpost
      have hs5 := hkp.size
      have hkk : Keep (fun b => RBin b ∨ Pv b) W2 W5 := hkp.mono fun b _ h => h.elim (fun h => (hOwR b h).imp id (hOQ b)) (fun h => .inr (hPQ b h))
      have HX2 := Lib.hid (fieldsOf_some l pre f t hf')
      have HY := Lib.hid hys'
      clear hkp after con2 HSL hy hR hrow4 hbel4 d0 dB hys' hf' hT
      cases ok with
      | true =>
        have hj5 := hpost.resolve_right (by simp)
        gi_wp2
        refine ⟨hkk, k2.trans (hkk.mono fun b _ h => .inl h), fun b hb => hge b hb, trivial, Q', ?_, fun b hb => hQQ b (hPQ b hb), fun b hb => hQQ b (hOQ b hb), hQl'⟩
        rw [HX2.out]
        exact HYY.out ▸ hj5.2
      | false =>
        have hj5 := hpost.resolve_left (by simp)
        gi_wp2
        exact ⟨hkk, rfl, Q', fun b hb => hQQ b (hPQ b hb), hQl', .inr ⟨_, r, by rw [HY.out, HYY.out, List.append_assoc]; rfl, hj5.2⟩⟩
    · have hT : decide ((f : Int) < (t : Int)) = false := by simp; omega
      have HX2 := Lib.hid (fieldsOf_none l pre f t hf)
      have hf2 : (t : Int) ≤ (f : Int) := by omega
      clear hsl hf hb1 hxs hY hb hq hbd
      gi_wp2_with fail
      refine region_any (fun w => w.cell? ⟨W.heap.size, 0, none⟩ = some (.func (.yield l') #[] #[]) ∧ w.cell? ⟨B, 0, none⟩ = some (.slice q n c)) (by kernel_rfl) ?_
      refine anyH_take 0 (v := .int .i64 f) rfl (by kernel_rfl) (by kernel_rfl) (by kernel_rfl) (by kernel_rfl) (fun _ _ _ h => h) ⟨.inl ⟨by kernel_rfl, ?_⟩, fun _ => rfl⟩ ⟨c0, cB⟩ ?_
      · rintro w ⟨h1, h2⟩; go_simp
      refine anyH_take 1 (v := .int .i64 t) rfl (by kernel_rfl) (by kernel_rfl) (by kernel_rfl) (by kernel_rfl) (fun _ _ _ h => h) ⟨.inl ⟨by kernel_rfl, ?_⟩, fun _ => rfl⟩ ⟨c0, cB⟩ ?_
      · rintro w ⟨h1, h2⟩; go_simp
      refine anyH_take 2 (v := .bool false) rfl (by kernel_rfl) (by kernel_rfl) (by kernel_rfl) (by kernel_rfl) (fun _ _ _ h => h) ⟨.inl ⟨by kernel_rfl, ?_⟩, fun _ => rfl⟩ ⟨c0, cB⟩ ?_
      · rintro w ⟨h1, h2⟩; first | (go_simp; done) | (go_simp; omega)
      refine anyH_take 3 (v := .bool false) rfl (by kernel_rfl) (by kernel_rfl) (by kernel_rfl) (by kernel_rfl) (fun _ _ _ h => h) ⟨.inl ⟨by kernel_rfl, ?_⟩, fun _ => rfl⟩ ⟨c0, cB⟩ ?_
      · rintro w ⟨h1, h2⟩; go_simp
      refine anyH_take 4 (v := undef) rfl (by kernel_rfl) (by kernel_rfl) (by kernel_rfl) (by kernel_rfl) (fun _ _ _ h => h) ⟨.inr ⟨by kernel_rfl, rfl⟩, fun _ => rfl⟩ ⟨c0, cB⟩ ?_
      refine anyH_take 5 (v := undef) rfl (by kernel_rfl) (by kernel_rfl) (by kernel_rfl) (by kernel_rfl) (fun _ _ _ h => h) ⟨.inr ⟨by kernel_rfl, rfl⟩, fun _ => rfl⟩ ⟨c0, cB⟩ ?_
      refine anyH_take 6 (v := undef) rfl (by kernel_rfl) (by kernel_rfl) (by kernel_rfl) (by kernel_rfl) (fun _ _ _ h => h) ⟨.inr ⟨by kernel_rfl, rfl⟩, fun _ => rfl⟩ ⟨c0, cB⟩ ?_
      refine anyH_take 7 (v := undef) rfl (by kernel_rfl) (by kernel_rfl) (by kernel_rfl) (by kernel_rfl) (fun _ _ _ h => h) ⟨.inr ⟨by kernel_rfl, rfl⟩, fun _ => rfl⟩ ⟨c0, cB⟩ ?_
      refine anyH_take 8 (v := undef) rfl (by kernel_rfl) (by kernel_rfl) (by kernel_rfl) (by kernel_rfl) (fun _ _ _ h => h) ⟨.inr ⟨by kernel_rfl, rfl⟩, fun _ => rfl⟩ ⟨c0, cB⟩ ?_
      refine anyH_skip 9 (by kernel_rfl) rfl (by kernel_rfl) (fun _ => trivial) ⟨c0, cB⟩ ?_
      refine anyH_skip 10 (by kernel_rfl) rfl (by kernel_rfl) (fun _ => trivial) ⟨c0, cB⟩ ?_
      refine anyH_take 11 (v := undef) rfl (by kernel_rfl) (by kernel_rfl) (by kernel_rfl) (by kernel_rfl) (fun _ _ _ h => h) ⟨.inr ⟨by kernel_rfl, rfl⟩, fun _ => rfl⟩ ⟨c0, cB⟩ ?_
      refine anyH_one 12 (by kernel_rfl) rfl fun K hK => ?_
      go_simp
      first | refine hK _ _ ⟨c0, cB⟩ ?_ | refine ⟨trivial, hK _ _ ⟨c0, cB⟩ ?_⟩
      clear hK K
      refine anyH_done (by kernel_rfl) ?_ _
      gi_wp2
      refine ⟨Keep.drew _ W2, k2.trans (Keep.drew _ W2), fun b hb => hge b hb, trivial, Q, ?_, hPQ, hOQ, hQ2⟩
      rw [HX2.out]
      exact hJ _ _ _ _ _ j2 (Keep.drew _ W2) fun b hb => ⟨.inl hb, hQ2 b hb⟩
  case done =>
    rintro D Pv Wd hD hPD hPl ⟨_, hge, _, Q, hj, hPQ, hOQ, hQl⟩ hK
    gi_wp2
    refine ⟨by simp, .inl ⟨_, _, rfl, run_takeDeferred hK, ?_⟩⟩
    refine ⟨_, results_none rfl _ _ _, ⟨_, rfl⟩, Q, ?_, .inl ?_⟩
    · intro b hb; rw [World.putObj_size]; exact hQl b hb
    · exact hJ _ _ _ _ _ hj (Keep.putObj _ _ _ (fun h => h (hPQ D hPD))) (fun b hb => ⟨.inl hb, by rw [World.putObj_size]; exact hQl b hb⟩)
  case stop =>
    rintro D cc pre rest Pv Wd hD hPD hPl hxs ⟨rfl, Q, hPQ, hQl, hj⟩ hK
    gi_wp2
    refine ⟨by simp, .inl ⟨_, _, rfl, run_takeDeferred hK, ?_⟩⟩
    refine ⟨_, results_none rfl _ _ _, ⟨_, rfl⟩, Q, ?_, ?_⟩
    · intro b hb; rw [World.putObj_size]; exact hQl b hb
    · have hkp : Keep (fun b => ¬ Q b) Wd (Wd.putObj D (.deferred none)) := Keep.putObj _ _ _ (fun h => h (hPQ D hPD))
      have hqp : ∀ b, Q b → (Q b ∨ Wd.heap.size ≤ b) ∧ b < (Wd.putObj D (.deferred none)).heap.size := fun b hb => ⟨.inl hb, by rw [World.putObj_size]; exact hQl b hb⟩
      rcases hj with hj | ⟨pre', rest', he, hj⟩
      · exact .inl (hJ _ _ _ _ _ hj hkp hqp)
      · exact .inr ⟨pre', rest', he, hJx _ _ _ _ _ hj hkp hqp⟩
end Go.Proofs.YtedglpfdibamdaaGreatDoor
namespace Go.Proofs.YtedglpfdibamdaaGreatDoor.S
open Go.RowKit Go.Shelf Go.Sort
attribute [local go_sem] Oper.semAt_some
theorem setS_eq (zs : List (List UInt8)) : setS zs = Lib.compact (zs.mergeSort fun x y => decide (x ≤ y)) := rfl
theorem ordered_any (blk cap : Nat) (zs : List (List UInt8)) (w : World) (hH : Holds encStr w blk 0 zs.toArray) (hblk : blk < w.heap.size) (hcap : zs.length ≤ cap) (hm : zs.length ≤ 1099511627776) :
    Calls Tryz.prog 122 #[.slice (some ⟨blk, 0, none⟩) zs.length cap] w fun e w' => e = .returned (.agg #[.slice (some ⟨blk, 0, none⟩) (setS zs).length cap]) ∧ SetIs encStr w' (.agg #[.slice (some ⟨blk, 0, none⟩) (setS zs).length cap]) (setS zs) ∧ Keep (fun b => b ≠ blk) w w' := by
  have b0 := Boxed.new w 75 (.slice none 0 0)
  have hH0 := holds_keep hH (Keep.alloc (fun _ => True) w (.cells #[.slice none 0 0] 75)) trivial hblk
  have k0 := Keep.alloc (fun b => b ≠ blk) w (.cells #[.slice none 0 0] 75)
  obtain ⟨W, hW⟩ : ∃ W, w.alloc (.cells #[.slice none 0 0] 75) = W := ⟨_, rfl⟩
  have hbW : blk < W.heap.size := by rw [← hW]; simp; omega
  have hsz : w.heap.size < W.heap.size := by rw [← hW]; simp
  rw [hW] at b0 hH0 k0
  have con1 := Tryz.slices_Sort_string blk 0 cap zs W hH0 hbW (by omega)
  have HW := Lib.hid hW
  have HL := Lib.hid (List.length_mergeSort (le := fun x y : List UInt8 => decide (x ≤ y)) zs)
  have HC := Lib.hid (setS_length zs)
  have HS := Lib.hid (setS_eq zs)
  generalize (zs.mergeSort fun x y : List UInt8 => decide (x ≤ y)) = ss at con1 HL HS
  clear hW hH
  go_enter Tryz.func122, Tryz.ntmps122
  go_wp2_with fail
  rw [HW.out]
  refine con1.mono ?_
  rintro e W2 ⟨rfl, n, os, hW2⟩
  have hk2 : ∀ S : Nat → Prop, ¬ S blk → Keep S W W2 := fun S hS => by
    rw [hW2]; exact ((keep_ahead S W n).trans (keep_putRow S _ _ _ _ _ hS)).trans (keep_grow S _ os)
  have hH2 : Holds encStr W2 blk 0 ss.toArray := by
    rw [hW2]
    exact holds_keep (holds_putRow _ _ _ _ zs.toArray ss.toArray (holds_ahead _ W n blk 0 _ hH0) (by simp [HL.out])) (keep_grow (fun _ => True) _ os) trivial (by simp; exact hbW)
  have hs2 := (hk2 (fun _ => False) (fun h => h)).size
  clear hW2
  have con2 := Tryz.slices_Compact_string blk 0 cap ss W2 hH2 (by rw [HL.out]; omega) (by rw [HL.out]; exact hcap)
  rw [HL.out] at con2
  go_wp2_with fail
  refine con2.mono ?_
  rintro e W3 ⟨rfl, n3, hW3⟩
  rw [← HS.out] at hW3
  have HL3 : ((setS zs ++ List.replicate (zs.length - (setS zs).length) []).toArray).size = ss.toArray.size := by have := HC.out; simp [HL.out]; omega
  have hk3 : ∀ S : Nat → Prop, ¬ S blk → Keep S W2 W3 := fun S hS => by
    rw [hW3]; exact (keep_ahead S W2 n3).trans (keep_putRow S _ _ _ _ _ hS)
  have hH3 : Holds encStr W3 blk 0 (setS zs ++ List.replicate (zs.length - (setS zs).length) []).toArray := by
    rw [hW3]
    exact holds_putRow _ _ _ _ ss.toArray _ (holds_ahead _ W2 n3 blk 0 _ hH2) HL3
  have hs3 := (hk3 (fun _ => False) (fun h => h)).size
  clear hW3 HL3
  have k3 := k0.trans ((hk2 (fun b => b ≠ blk) (by simp)).trans (hk3 _ (by simp)))
  have b3 := (hk3 (fun b => b ≠ blk) (by simp)).boxed ((hk2 (fun b => b ≠ blk) (by simp)).boxed b0 (by omega)) (by omega)
  have cR := b3.cell
  have fR := b3.frozen
  rw [← HS.out]
  have HCc := HC.out
  have hsl : SlIn encStr W3 (some ⟨blk, 0, none⟩) (setS zs).length (setS zs) := by
    refine ⟨rfl, fun _ => ⟨blk, 0, rfl, by omega, fun i x hx => ?_⟩⟩
    have hi : i < (setS zs).length := (List.getElem?_eq_some_iff.1 hx).1
    have := (hH3 i (by simp; omega)).1
    rw [this]
    congr 1
    have hx' := List.getElem?_eq_some_iff.1 hx
    obtain ⟨_, rfl⟩ := hx'
    simp
    rw [List.getElem?_append_left hi, List.getElem?_eq_getElem hi]
    rfl
  clear hH3 hH2 hH0 con1 con2
  go_wp2
  have hbr2 := (b3.set (.slice (some ⟨blk, 0, none⟩) (setS zs).length cap)).cell
  have hne : blk ≠ w.heap.size := by omega
  refine bodyPost_ret (v := .agg #[.slice (some ⟨blk, 0, none⟩) (setS zs).length cap]) (by simp [results, Tryz.f122, go_sem, hbr2]) rfl ⟨rfl, ⟨_, _, _, rfl, by omega, by omega, ?_, setS_rises zs⟩, ?_⟩
  · exact hsl.keep (Keep.setCell (S := fun b => b ≠ w.heap.size) _ _ _ (by simp)) fun a h _ => by cases h; exact hne
  · exact ((k3.mono (T := fun b => b < w.heap.size ∧ b ≠ blk) fun k _ h => h.2).trans (Keep.setCell _ _ _ (by simp))).mono fun k hk h => ⟨hk, h⟩
theorem ordered_none (q : Option Addr) (cap : Nat) (w : World) (_hcap : q = none → cap = 0) :
    Calls Tryz.prog 122 #[.slice q 0 cap] w fun e w' => e = .returned (.agg #[.slice q 0 cap]) ∧ Below w.heap.size w w' := by
  have con1 := fun W => Tryz.slices_Sort_string_none q cap W
  have con2 := fun W => Tryz.slices_Compact_string_empty q cap W
  have b0 := Boxed.new w 75 (.slice none 0 0)
  go_enter Tryz.func122, Tryz.ntmps122
  go_wp2_with fail
  refine (con1 _).mono ?_
  rintro e w1 ⟨rfl, rfl⟩
  go_wp2_with fail
  refine (con2 _).mono ?_
  rintro e w2 ⟨rfl, rfl⟩
  go_wp2
  have hbr2 := (b0.set (.slice q 0 cap)).cell
  refine bodyPost_ret (v := .agg #[.slice q 0 cap]) (by simp [results, Tryz.f122, go_sem]) rfl ⟨rfl, below_alloc _⟩
theorem setS_nil : setS [] = [] := List.eq_nil_of_length_eq_zero (Nat.le_zero.1 (setS_length []))
theorem ordered_own (base : Nat) (v : Value) (n : Nat) (zs : List (List UInt8)) (w : World) (h : w.ownsRow base 9 1 v n (zs.map encStr)) (hbase : base ≤ w.heap.size) (hm : n ≤ 1099511627776) :
    Calls Tryz.prog 122 #[v] w fun e w' => ∃ q c, e = .returned (.agg #[.slice q (setS zs).length c]) ∧ SetIs encStr w' (.agg #[.slice q (setS zs).length c]) (setS zs) ∧ (∀ a, q = some a → base ≤ a.block ∧ a.block < w.heap.size) ∧ Below base w w' := by
  by_cases hv : v = .slice none 0 0
  · subst hv
    have hl : zs = [] := by
      have h1 := h.1
      rcases h.2 with ⟨_, h2⟩ | ⟨g, cap, cur, h2, _⟩
      · simp [h2] at h1; exact h1
      · cases h2
    subst hl
    refine (ordered_none none 0 w (fun _ => rfl)).mono fun e w' ⟨he, hb⟩ => ?_
    rw [setS_nil]
    exact ⟨none, 0, he, ⟨_, _, _, rfl, Nat.le_refl _, Nat.zero_le _, SlIn.nil _ _ _, List.Pairwise.nil⟩, (by intro a h; cases h), hb.mono hbase⟩
  · obtain ⟨g, cap, rfl, hb, hlt, hn, hcm, hl, hH⟩ := Lib.holds_of_ownsRow h hv
    subst hl
    refine (ordered_any g cap zs w hH hlt hn hm).mono fun e w' ⟨he, hs, hk⟩ => ⟨_, _, he, hs, by intro a h; cases h; exact ⟨hb, hlt⟩, (hk.mono fun b _ h => by omega).below hbase⟩
end Go.Proofs.YtedglpfdibamdaaGreatDoor.S
namespace Go.Proofs.YtedglpfdibamdaaGreatDoor
open Go.RowKit Go.Shelf
theorem Fields_iter {w w' : World} {B n : Nat} {v' : Value} {l : List UInt8} (hn : n ≤ 140737488355328) (_hln : l.length = n) (hB : Boxed w' B 22 v') (hrow : w'.ownsRow w.heap.size 5 1 v' n ((Lib.numsL l).map (Value.int .u8))) :
    IterC Tryz.prog 65 #[.pointer (some ⟨B, 0, none⟩)] RowArg (fieldsL l) (fun b => b = B ∨ v'.ownBlock = some b) w' := by
  obtain ⟨q, c, rfl, hl, hnc, _, hbs, hblk⟩ := row_open hrow
  exact Fields1_iter B q n c l _ w' hl hn hnc hbs (fun a ha _ => .inr (hblk a ha).2.2) hB (.inl rfl) (fun b hb => by
    rcases hb with rfl | hb
    · exact hB.lt
    · exact (hrow.lt b hb).2)
end Go.Proofs.YtedglpfdibamdaaGreatDoor
namespace Go.Proofs.YtedglpfdibamdaaGreatDoor.S
open Go.RowKit Go.Shelf
attribute [local go_sem] Oper.semAt_some
theorem Len_any (v : Value) (xs : List (List UInt8)) (w : World) (h : SetIs encStr w v xs) :
    Calls Tryz.prog 121 #[v] w fun e w' => e = .returned (.int .i64 xs.length) ∧ Below w.heap.size w w' := by
  obtain ⟨q, n, c, rfl, _, _, hs, _⟩ := h
  have hl := Lib.hid hs.1
  clear hs
  go_enter Tryz.func121, Tryz.ntmps121
  go_wp2
  go_ret
  exact ⟨(by rw [hl.out]; try rfl), below_alloc _⟩
end Go.Proofs.YtedglpfdibamdaaGreatDoor.S
namespace Go.Proofs.YtedglpfdibamdaaGreatDoor.Url
theorem at_ahead (c : UInt8) (l : List UInt8) : atFst c l = aheadL c l ∧ Host.tailL c l = (if atOk c l = true then some (atSnd c l) else none) ∧ (atOk c l = false → atSnd c l = []) := by
  by_cases h : c ∈ l
  · obtain ⟨x, y, rfl, hx⟩ := List.eq_append_cons_of_mem h
    have hi : Lib.indexByte (x ++ c :: y) c = (x.length : Int) := index_at _ _ _ (by simp) (by simp [List.getD]) fun j hj => by
      intro e
      apply hx
      rw [← e, List.getD, List.getElem?_append_left hj, List.getElem?_eq_getElem hj]
      exact List.getElem_mem hj
    obtain ⟨h1, h2, h3⟩ := at_found c _ _ hi
    obtain ⟨h4, h5⟩ := ahead_yes c x y hx
    rw [h1, h2, h3, h4, h5, if_pos rfl]
    refine ⟨by simp, by simp, fun h => by cases h⟩
  · have hi : Lib.indexByte l c = -1 := index_no _ _ fun j hj e => h (by
      rw [← e, List.getD, List.getElem?_eq_getElem hj]
      exact List.getElem_mem hj)
    obtain ⟨h1, h2, h3⟩ := at_none c l hi
    obtain ⟨h4, h5⟩ := ahead_no c l h
    rw [h1, h2, h3, h4, h5]
    exact ⟨rfl, rfl, fun _ => rfl⟩
theorem at_len (c : UInt8) (l : List UInt8) : (atFst c l).length ≤ l.length ∧ (atSnd c l).length ≤ l.length := by
  refine ⟨by rw [(at_ahead c l).1]; exact ahead_len c l, ?_⟩
  unfold atSnd
  split
  · rw [List.length_drop]; omega
  · simp
def sepI (l : List UInt8) : Int := Lib.index l [58, 47, 47]
theorem sep_none (l : List UInt8) (h : sepI l = -1) : sepL l = none := by
  induction l with
  | nil => rfl
  | cons b r ih =>
    unfold sepI at h ih
    rw [Lib.index] at h
    split at h
    · cases h
    · rename_i hp
      split at h
      · rename_i hr
        unfold sepL
        split
        · rename_i t
          exact absurd (by simp [List.isPrefixOf]) hp
        · rw [ih (by simpa using hr)]; rfl
      · have := Lib.index_ge r [58, 47, 47]; omega
theorem sep_some : ∀ (l : List UInt8) (k : Nat), sepI l = (k : Int) → sepL l = some (l.take k, l.drop (k + 3)) ∧ k + 3 ≤ l.length
  | [], k, h => by
    unfold sepI at h
    rw [Lib.index] at h
    simp at h
  | b :: r, k, h => by
    have ih := sep_some r
    unfold sepI at h ih
    rw [Lib.index] at h
    split at h
    · rename_i hp
      obtain rfl : k = 0 := by omega
      have hp' : ([58, 47, 47] : List UInt8) <+: b :: r := List.isPrefixOf_iff_prefix.1 hp
      obtain ⟨t, ht⟩ := hp'
      rw [← ht]
      exact ⟨rfl, by simp⟩
    · rename_i hp
      split at h
      · omega
      · rename_i hr
        have hge := Lib.index_ge r [58, 47, 47]
        have hr' : Lib.index r [58, 47, 47] ≠ -1 := by simpa using hr
        obtain ⟨j, hj⟩ : ∃ j : Nat, Lib.index r [58, 47, 47] = (j : Int) := ⟨(Lib.index r [58, 47, 47]).toNat, by omega⟩
        obtain rfl : k = j + 1 := by omega
        obtain ⟨h1, h2⟩ := ih j hj
        refine ⟨?_, by rw [List.length_cons]; omega⟩
        unfold sepL
        split
        · exact absurd (by simp [List.isPrefixOf]) hp
        · rw [h1]
          simp
theorem sep_cases (l : List UInt8) : (sepI l = -1 ∧ sepL l = none) ∨ ∃ k : Nat, sepI l = (k : Int) ∧ k + 3 ≤ l.length ∧ sepL l = some (l.take k, l.drop (k + 3)) := by
  have hge : -1 ≤ sepI l := Lib.index_ge l _
  by_cases h : sepI l = -1
  · exact .inl ⟨h, sep_none l h⟩
  · have hk : sepI l = ((sepI l).toNat : Int) := by omega
    obtain ⟨h1, h2⟩ := sep_some l _ hk
    exact .inr ⟨_, hk, h2, h1⟩
end Go.Proofs.YtedglpfdibamdaaGreatDoor.Url
namespace Go.Proofs.YtedglpfdibamdaaGreatDoor.S
open Go.RowKit Go.Shelf
attribute [local go_sem] Oper.semAt_some
set_option maxHeartbeats 2000000 in
theorem Compare_any (q1 q2 : Option Addr) (n1 c1 n2 c2 : Nat) (xs ys : List (List UInt8)) (w : World) (h1 : SlIn encStr w q1 n1 xs) (h2 : SlIn encStr w q2 n2 ys) (hn1 : n1 ≤ 140737488355328) (hn2 : n2 ≤ 140737488355328) :
    Calls Tryz.prog 95 #[.slice q1 n1 c1, .slice q2 n2 c2] w fun e w' => e = .returned (.int .i64 (cmpL xs ys)) ∧ w = w' := by
  have hl1 := Lib.hid h1.1
  have hl2 := Lib.hid h2.1
  go_enter Tryz.func95, Tryz.ntmps95
  go_wp2
  go_loop [11] (fun i => ∃ k : Nat, k ≤ n1 ∧ k ≤ n2 ∧ i = .int .i64 k ∧ Hid (cmpL xs ys = cmpL (xs.drop k) (ys.drop k))) (fun i => n1 - (intOf i).toNat)
  case atStart => exact ⟨0, Nat.zero_le _, Nat.zero_le _, rfl, rfl⟩
  case round =>
    obtain ⟨k, hk1, hk2, rfl, HR⟩ := hrel
    have con := fun (x y : List UInt8) w => cmpS_any x y w
    by_cases hlt : k < n1
    · obtain ⟨b1, o1, rfl, _, e1⟩ := h1.at (by omega)
      obtain ⟨x, hx, hd1⟩ := drop_getElem xs k (by rw [hl1.out]; exact hlt)
      have ck1 : w.cell? ⟨b1, o1 + k, none⟩ = some (.string ⟨x.toArray⟩) := e1 k x hx
      by_cases hlt2 : k < n2
      · obtain ⟨b2, o2, rfl, _, e2⟩ := h2.at (by omega)
        obtain ⟨y, hy, hd2⟩ := drop_getElem ys k (by rw [hl2.out]; exact hlt2)
        have ck2 : w.cell? ⟨b2, o2 + k, none⟩ = some (.string ⟨y.toArray⟩) := e2 k y hy
        have NH := Lib.hid (show cmpL xs ys = if x < y then -1 else if y < x then 1 else cmpL (xs.drop (k + 1)) (ys.drop (k + 1)) by rw [HR.out, hd1, hd2]; rfl)
        have d2 : decide ((n2 : Int) ≤ (k : Int)) = false := by simp; omega
        clear HR hd1 hd2 hx hy e1 e2 h1 h2
        rcases Lin.tri x y with hxy | hxy | hxy
        · have H := Lib.hid (show cmpL xs ys = -1 by rw [NH.out, if_pos hxy])
          have con' := fun w => con x y w
          rw [cmpS_lt x y hxy] at con'
          clear hxy NH con
          go_wp2_with fail
          refine (con' _).mono ?_
          rintro e w' ⟨rfl, rfl⟩
          go_wp2
          go_ret
          exact ⟨(by rw [H.out]; try rfl), rfl⟩
        · have H := Lib.hid (show cmpL xs ys = cmpL (xs.drop (k + 1)) (ys.drop (k + 1)) by rw [NH.out, hxy, if_neg (Lin.irr y), if_neg (Lin.irr y)])
          have con' := fun w => con x y w
          rw [cmpS_eq x y hxy] at con'
          clear hxy NH con
          go_wp2_with fail
          refine (con' _).mono ?_
          rintro e w' ⟨rfl, rfl⟩
          go_wp2
          go_round
          case rel => exact ⟨k + 1, by omega, by omega, by go_num, H⟩
          case measure => simp [intOf]; omega
        · have H := Lib.hid (show cmpL xs ys = 1 by rw [NH.out, if_neg (lin_asym hxy), if_pos hxy])
          have con' := fun w => con x y w
          rw [cmpS_gt x y hxy] at con'
          clear hxy NH con
          go_wp2_with fail
          refine (con' _).mono ?_
          rintro e w' ⟨rfl, rfl⟩
          go_wp2
          go_ret
          exact ⟨(by rw [H.out]; try rfl), rfl⟩
      · have H := Lib.hid (show cmpL xs ys = 1 by rw [HR.out, hd1, List.drop_of_length_le (l := ys) (by rw [hl2.out]; omega)]; rfl)
        have d2 : decide ((n2 : Int) ≤ (k : Int)) = true := by simp; omega
        clear HR hd1 hx e1 h1 h2 con
        go_wp2
        go_ret
        exact ⟨(by rw [H.out]; try rfl), rfl⟩
    · obtain rfl : k = n1 := by omega
      have hd1 : xs.drop k = [] := List.drop_of_length_le (by rw [hl1.out]; omega)
      clear con h1 h2
      by_cases hlt2 : k < n2
      · obtain ⟨y, hy, hd2⟩ := drop_getElem ys k (by rw [hl2.out]; exact hlt2)
        have H := Lib.hid (show cmpL xs ys = -1 by rw [HR.out, hd1, hd2]; rfl)
        have d2 : decide ((k : Int) < (n2 : Int)) = true := by simp; omega
        clear HR hd1 hd2 hy
        go_wp2
        go_ret
        exact ⟨(by rw [H.out]; try rfl), rfl⟩
      · have H := Lib.hid (show cmpL xs ys = 0 by rw [HR.out, hd1, List.drop_of_length_le (l := ys) (by rw [hl2.out]; omega)]; rfl)
        have d2 : decide ((k : Int) < (n2 : Int)) = false := by simp; omega
        clear HR hd1
        go_wp2
        go_ret
        exact ⟨(by rw [H.out]; try rfl), rfl⟩
set_option maxRecDepth 100000 in
set_option maxHeartbeats 2000000 in
theorem Sub_any (v1 v2 : Value) (xs ys : List (List UInt8)) (w : World) (h1 : SetIs encStr w v1 xs) (h2 : SetIs encStr w v2 ys) (_hm1 : xs.length ≤ 1099511627776) (_hm2 : ys.length ≤ 1099511627776) :
    Calls Tryz.prog 147 #[v1, v2] w fun e w' => e = .returned (.bool (subB xs ys)) ∧ Below w.heap.size w w' := by
  obtain ⟨q1, n1, c1, rfl, hn1, _, hs1, hr1⟩ := h1
  obtain ⟨q2, n2, c2, rfl, hn2, _, hs2, hr2⟩ := h2
  obtain rfl := hs1.1
  obtain rfl := hs2.1
  have HSB := Lib.hid (subB_of xs ys hr1 hr2)
  clear hr1 hr2
  refine (callsIn_wide (n := 1)).1 ?_
  refine callsIn_of_wp_marks Tryz.func147 rfl trivial ?_ rfl
  simp only [Tryz.ntmps147, List.size_toArray, List.length_cons, List.length_nil, Nat.reduceAdd, Nat.reduceSub, Array.replicate_succ, Array.replicate_zero, List.push_toArray, List.append_toArray, List.nil_append, List.cons_append]
  have con := fun W => both_any q1 q2 xs.length c1 ys.length c2 W
  gi_wp2_with fail
  refine ⟨trivial, (callsIn_wide.2 (con _)).mono ?_⟩
  rintro e w' ⟨rfl, rfl⟩
  gi_wp2
  obtain ⟨W1, hW1, a0, a1, a2, a3, a4, hsz, hk1⟩ : ∃ W1, ((((w.alloc (.cells #[.slice q1 xs.length c1] 75)).alloc (.cells #[.slice q2 ys.length c2] 75)).alloc (.cells #[.bool false] 4)).alloc (.cells #[.slice q1 xs.length c1] 75)).alloc (.cells #[.slice q2 ys.length c2] 75) = W1 ∧
      Boxed W1 w.heap.size 75 (.slice q1 xs.length c1) ∧ Boxed W1 (w.heap.size + 1) 75 (.slice q2 ys.length c2) ∧ Boxed W1 (w.heap.size + 1 + 1) 4 (.bool false) ∧ Boxed W1 (w.heap.size + 1 + 1 + 1) 75 (.slice q1 xs.length c1) ∧ Boxed W1 (w.heap.size + 1 + 1 + 1 + 1) 75 (.slice q2 ys.length c2) ∧ W1.heap.size = w.heap.size + 5 ∧ ∀ S, Keep S w W1 := by
    obtain ⟨W1, h1, h2, h3, h4, h5, h6, h7, h8⟩ := five_boxes w 75 75 4 75 75 (.slice q1 xs.length c1) (.slice q2 ys.length c2) (.bool false) (.slice q1 xs.length c1) (.slice q2 ys.length c2)
    rw [← h1] at h2 h3 h4 h5 h6 h7
    exact ⟨_, rfl, h2, h3, h4, h5, h6, h7, fun S => ((((Keep.alloc S _ _).trans (Keep.alloc S _ _)).trans (Keep.alloc S _ _)).trans (Keep.alloc S _ _)).trans (Keep.alloc S _ _)⟩
  rw [hW1]
  clear hW1 con
  obtain ⟨RB, hRB⟩ : ∃ RB : Nat → Prop, RB = fun b => b < W1.heap.size ∧ b ≠ w.heap.size + 1 + 1 := ⟨_, rfl⟩
  have hRl : ∀ b, RB b → b < W1.heap.size := fun b hb => by rw [hRB] at hb; exact hb.1
  have hRo : ∀ b, b < w.heap.size → RB b := fun b hb => by rw [hRB]; omega
  have hRn : ¬ RB (w.heap.size + 1 + 1) := fun hb => by rw [hRB] at hb; exact hb.2 rfl
  have r3 : RB (w.heap.size + 1 + 1 + 1) := by rw [hRB]; omega
  have r4 : RB (w.heap.size + 1 + 1 + 1 + 1) := by rw [hRB]; omega
  clear hRB
  have g1 : SlIn encStr W1 q1 xs.length xs := hs1.keep (hk1 (fun _ => True)) fun _ _ _ => trivial
  have g2 : SlIn encStr W1 q2 ys.length ys := hs2.keep (hk1 (fun _ => True)) fun _ _ _ => trivial
  refine rf_law (gf := 205) (lb := #[.pointer (some ⟨w.heap.size + 1 + 1 + 1, 0, none⟩), .pointer (some ⟨w.heap.size + 1 + 1 + 1 + 1, 0, none⟩)]) rfl (enters_of Tryz.func205 (by kernel_rfl) rfl)
    (both1_iter _ _ q1 q2 xs.length c1 ys.length c2 xs ys RB W1 hn1 hn2 (by omega) (by omega) g1 g2 (fun a h h' => hRo _ (hs1.lt a h h')) (fun a h h' => hRo _ (hs2.lt a h h')) a3 a4 r3 r4) (Keep.refl _ _) hRl (fun x args G W h => by rw [h.1]; rfl)
    (SubI 4 (w.heap.size + 1 + 1) RB W1) (SubX 4 (w.heap.size + 1 + 1) RB W1) (SubI_abide _ _ _ _ (by omega) hRl) (SubX_abide _ _ _ _ (by omega) hRl)
    ⟨a2, (fun _ h => h.elim), Keep.refl _ _, rfl⟩ ?round ?done ?stop
  case round =>
    rintro ll pre ⟨cc, x⟩ rest Pv G args Wr hll hxs ⟨hbx, hge, hKW, hany⟩ hPl hGl hPb hGP ⟨rfl, rfl⟩
    gi_wp2
    refine ⟨Keep.refl _ _, fun W2 hk2 hs2 r hr => ?_⟩
    have hnP : ∀ b, b < W1.heap.size → ¬ Pv b := fun b hb h => by have := hge b h; omega
    have hk2' : Keep (fun b => ¬ Pv b) Wr W2 := hk2.mono fun b _ hb h => hb (h ▸ hPl)
    replace hbx := hk2'.boxed hbx (hnP _ (by omega))
    have hK2 : Keep RB W1 W2 := hKW.trans (hk2'.mono fun b _ hb => hnP b (hRl b hb))
    have cB := hbx.cell
    have fB := hbx.frozen
    have HA := Lib.hid hany
    clear hxs hr hk2 hk2' hs2 hKW hany
    by_cases hc : cc = 1
    · subst hc
      have hkS : Keep (fun b => RB b ∨ Pv b) W2 (W2.setCell ⟨w.heap.size + 1 + 1, 0, none⟩ (.bool false)) := Keep.setCell _ _ _ (fun h => h.elim hRn fun h => hnP (w.heap.size + 1 + 1) (by omega) h)
      have hbx' := hbx.set (.bool false)
      gi_wp2
      exact ⟨hkS, rfl, hbx', hge, hK2.trans (hkS.mono fun b _ h => .inl h), by rw [List.any_append]; simp⟩
    · have hc' : ((cc : Int) == 1) = false := by rw [beq_eq_false_iff_ne]; omega
      have HA2 := Lib.hid (show ((pre ++ [(cc, x)]).any fun p => p.1 == 1) = false by rw [List.any_append, HA.out]; simp [hc])
      clear hc
      gi_wp2
      exact ⟨Keep.refl _ _, hbx, hge, hK2, HA2.out⟩
  case done =>
    rintro D Pv Wd hD hPD hPl ⟨hbx, hge, hKW, hany⟩ hK
    have cB := hbx.cell
    have fB := hbx.frozen
    have H := Lib.hid (show subB xs ys = true by rw [HSB.out, hany]; rfl)
    have hbx2 := hbx.set (.bool true)
    have hk2 := fun (S : Nat → Prop) (hS : ¬ S (w.heap.size + 1 + 1)) => Keep.setCell (S := S) Wd ⟨w.heap.size + 1 + 1, 0, none⟩ (.bool true) hS
    have hD2 := (hk2 (fun b => b ≠ w.heap.size + 1 + 1) (by simp)).heap (by omega) hK
    have hB2 : Keep (fun b => b < w.heap.size) w (Wd.setCell ⟨w.heap.size + 1 + 1, 0, none⟩ (.bool true)) := ((hk1 _).trans (hKW.mono fun b _ h => hRo b h)).trans (hk2 _ (by omega))
    clear hk2 hany
    gi_wp2
    generalize Wd.setCell ⟨w.heap.size + 1 + 1, 0, none⟩ (.bool true) = We at *
    refine ⟨by simp, .inl ⟨_, _, rfl, run_takeDeferred hD2, ?_⟩⟩
    have hkP : ∀ S : Nat → Prop, ¬ S D → Keep S We (We.putObj D (.deferred none)) := fun S hS => Keep.putObj We D _ hS
    have hbr3 := ((hkP (fun b => b ≠ D) (by simp)).boxed hbx2 (by omega)).cell
    refine ⟨.bool true, ?_, by rw [H.out], (hB2.trans (hkP _ (by omega))).below (Nat.le_refl _)⟩
    simp [results, Tryz.f147, go_sem, hbr3]
  case stop =>
    rintro D c pre rest Pv Wd hD hPD hPl hxs ⟨rfl, hbx, hge, hKW, hany⟩ hK
    have H := Lib.hid (show subB xs ys = false by rw [HSB.out, hxs, List.any_append, hany]; rfl)
    have hB2 : Keep (fun b => b < w.heap.size) w Wd := (hk1 _).trans (hKW.mono fun b _ h => hRo b h)
    clear hany hxs
    gi_wp2
    refine ⟨by simp, .inl ⟨_, _, rfl, run_takeDeferred hK, ?_⟩⟩
    have hkP : ∀ S : Nat → Prop, ¬ S D → Keep S Wd (Wd.putObj D (.deferred none)) := fun S hS => Keep.putObj Wd D _ hS
    have hbr3 := ((hkP (fun b => b ≠ D) (by simp)).boxed hbx (by omega)).cell
    refine ⟨.bool false, ?_, by rw [H.out], (hB2.trans (hkP _ (by omega))).below (Nat.le_refl _)⟩
    simp [results, Tryz.f147, go_sem, hbr3]
end Go.Proofs.YtedglpfdibamdaaGreatDoor.S
namespace Go.Proofs.YtedglpfdibamdaaGreatDoor.Host
open Go.RowKit Go.Shelf
attribute [local go_sem] Oper.semAt_some
theorem results_bool {fn : Func} {p : Tmp} (h : fn.results = #[.cell p 4]) (tmps : Array Value) (w : World) (B : Nat) (v : Value) (hp : tmps.getD p undef = .pointer (some ⟨B, 0, none⟩)) (hb : w.cell? ⟨B, 0, none⟩ = some v) :
    (results fn tmps).run Tryz.prog w = .ok v w := by
  have hp' : tmps[p]?.getD undef = .pointer (some ⟨B, 0, none⟩) := by simpa using hp
  have ha : ∀ w', (isAgg 4).run Tryz.prog w' = .ok false w' := Tryz.isAgg4
  have hl : (load ⟨B, 0, none⟩).run Tryz.prog w = .ok v w := by simp [go_sem, hb]
  simp [results, h, hp', asAddr, loadVar, ha, hl, Result.andThen]
def EvI {α : Type} (W0 : World) (E : List α → World → Prop) (pre : List α) (Pv : Nat → Prop) (W : World) : Prop := (∀ b, Pv b → W0.heap.size ≤ b) ∧ Keep (fun _ => False) W0 W ∧ E pre W
def EvX {α : Type} (W0 : World) (E : List α → World → Prop) (c : Code) (pre : List α) (Pv : Nat → Prop) (W : World) : Prop := c = .ret ∧ EvI W0 E pre Pv W
theorem EvI_abide {α : Type} {W0 : World} {E : List α → World → Prop} (hE : ∀ pre A B, Keep (fun b => b < W0.heap.size) A B → E pre A → E pre B) : Abide (EvI W0 E) := by
  rintro pre Pv Pv' A B ⟨h1, h2, h3⟩ hk hp
  refine ⟨fun b hb => ?_, h2.trans (hk.mono fun _ _ h => h.elim), hE _ _ _ (hk.mono fun b _ hb hn => by have := h1 b hn; omega) h3⟩
  rcases (hp b hb).1 with h | h
  · exact h1 b h
  · exact Nat.le_trans h2.size h
theorem EvX_abide {α : Type} {W0 : World} {E : List α → World → Prop} (hE : ∀ pre A B, Keep (fun b => b < W0.heap.size) A B → E pre A → E pre B) (c : Code) : Abide (EvX W0 E c) :=
  fun s Pv Pv' A B h hk hp => ⟨h.1, EvI_abide hE s Pv Pv' A B h.2 hk hp⟩
theorem splitX_snd (c : UInt8) (l : List UInt8) : (splitX c l).map Prod.snd = Ref.splitL c l := by
  rw [← pieces_split]
  unfold splitX splitOf piecesOf
  rw [List.map_map]
  apply List.ext_getElem?
  intro i
  simp only [List.getElem?_map, List.getElem?_zipIdx]
  cases (spansL (isB c) l)[i]? <;> rfl
theorem splitX_length (c : UInt8) (l : List UInt8) : (splitX c l).length = (Ref.splitL c l).length := by rw [← splitX_snd, List.length_map]
theorem addrX (l : List UInt8) : addrB (Ref.splitL 46 l) = (decide ((splitX 46 l).length = 4) && (splitX 46 l).all fun x => Ref.numB x.2) := by
  rw [Ref.addr_num, ← splitX_length, ← splitX_snd, List.all_map]
  rfl
def AdrE (w : World) (pre : List (Nat × List UInt8)) (W : World) : Prop :=
  Boxed W w.heap.size 4 (.bool false) ∧ Boxed W (w.heap.size + 1) 3 (.int .i64 pre.length) ∧ pre.all (fun x => Ref.numB x.2) = true ∧ Below w.heap.size w W
def AdrX (w : World) (xs : List (Nat × List UInt8)) (_ : List (Nat × List UInt8)) (W : World) : Prop :=
  Boxed W w.heap.size 4 (.bool false) ∧ xs.all (fun x => Ref.numB x.2) = false ∧ Below w.heap.size w W
set_option maxRecDepth 100000 in
set_option maxHeartbeats 4000000 in
theorem Address_any (q : Option Addr) (n c : Nat) (l : List UInt8) (w : World) (hl : l.length = n) (hn : n ≤ 140737488355328) (h : Lib.BytesIn w q n (Lib.numsL l)) :
    Calls Tryz.prog 103 #[.slice q n c] w fun e w' => e = .returned (.bool (addressB l)) ∧ Below w.heap.size w w' := by
  refine (callsIn_wide (n := 1)).1 ?_
  refine callsIn_of_wp_marks Tryz.func103 rfl trivial ?_ rfl
  simp only [Tryz.ntmps103, List.size_toArray, List.length_cons, List.length_nil, Nat.reduceAdd, Nat.reduceSub, Array.replicate_succ, Array.replicate_zero, List.push_toArray, List.append_toArray, List.nil_append, List.cons_append]
  by_cases hbig : 253 < n
  · have d1 : decide ((253 : Int) < (n : Int)) = true := by simp; omega
    have H := Lib.hid (address_big l (by omega))
    clear h hl
    gi_wp2
    exact ⟨_, results_bool rfl _ _ w.heap.size _ rfl (Boxed.new w _ _).cell, by rw [H.out], (Below.refl _ _).alloc (Nat.le_refl _) _⟩
  · have d1 : decide ((253 : Int) < (n : Int)) = false := by simp; omega
    have HA := Lib.hid ((address_of l (by omega)).trans (addrX l))
    obtain ⟨W0, hW0⟩ : ∃ W0, (w.alloc (.cells #[.bool false] 4)).alloc (.cells #[.int .i64 0] 3) = W0 := ⟨_, rfl⟩
    have b0 : Boxed W0 w.heap.size 4 (.bool false) := hW0 ▸ (Boxed.new w _ _).alloc _
    have b1 : Boxed W0 (w.heap.size + 1) 3 (.int .i64 0) := by
      have := Boxed.new (w.alloc (.cells #[.bool false] 4)) 3 (.int .i64 0)
      rw [World.size_alloc] at this
      exact hW0 ▸ this
    have hB0 : Below w.heap.size w W0 := hW0 ▸ ((Below.refl _ w).alloc (Nat.le_refl _) _).alloc (by simp) _
    have hs0 : W0.heap.size = w.heap.size + 2 := by rw [← hW0]; simp
    have hb0 := bytes_keep h (Keep.of_below hB0) (fun a h1 h2 => bytes_lt h a h1 h2)
    have con := Split_any q n c 46 l W0 hl (by omega) hb0
    have hsmall := splitX_small 46 l n hl
    have hlenX := splitX_len 46 l
    rw [hl] at hlenX
    have HW0 := Lib.hid hW0
    clear h hW0 hb0 hl
    gi_wp2_with fail
    rw [HW0.out]
    refine ⟨trivial, (callsIn_wide.2 con).mono ?_⟩
    rintro e W1 ⟨B, v', rfl, hB, hBc, hrow, hBl, hbel⟩
    have hit := Split_iter (by omega) hB hBc hrow
    have hRl0 : ∀ b, (b = B ∨ b = W0.heap.size ∨ v'.ownBlock = some b) → w.heap.size + 2 ≤ b ∧ b < W1.heap.size := fun b hb => by
      rcases hb with rfl | rfl | hb
      · exact ⟨by omega, hB.lt⟩
      · exact ⟨by omega, hBc.lt⟩
      · have := hrow.lt b hb; exact ⟨by omega, this.2⟩
    obtain ⟨RB, hRB⟩ : ∃ RB : Nat → Prop, RB = fun b => b = B ∨ b = W0.heap.size ∨ v'.ownBlock = some b := ⟨_, rfl⟩
    rw [← hRB, hs0] at hit
    have hRl : ∀ b, RB b → w.heap.size + 2 ≤ b ∧ b < W1.heap.size := fun b hb => hRl0 b (by rw [hRB] at hb; exact hb)
    clear hRB hRl0
    replace b0 := (Keep.of_below hbel).boxed b0 (by omega)
    replace b1 := (Keep.of_below hbel).boxed b1 (by omega)
    have hB1 := hB0.trans (hbel.mono hB0.size)
    have hs1 := hbel.size
    clear con hB hBc hrow hBl hbel HW0 hB0
    generalize splitX 46 l = xs at *
    gi_wp2
    rw [hs0] at hs1
    clear hs0
    refine rf_law (gf := 119) (lb := #[.pointer (some ⟨B, 0, none⟩), .pointer (some ⟨w.heap.size + 2, 0, none⟩)]) rfl (enters_of Tryz.func119 (by kernel_rfl) rfl)
      hit (Keep.refl _ _) (fun b hb => (hRl b hb).2) (fun x args G W h => by obtain ⟨v, rfl, _⟩ := h; rfl)
      (EvI W1 (AdrE w)) (EvX W1 (AdrX w xs)) (EvI_abide ?e1) (EvX_abide ?e2)
      ⟨(fun _ h => h.elim), Keep.refl _ _, b0, b1, rfl, hB1⟩ ?round ?done ?stop
    case e1 =>
      rintro pre A B hk ⟨h1, h2, h3, h4⟩
      exact ⟨hk.boxed h1 (by omega), hk.boxed h2 (by omega), h3, h4.trans ((hk.mono fun b _ hb => by omega).below h4.size)⟩
    case e2 =>
      rintro pre A B hk ⟨h1, h3, h4⟩
      exact ⟨hk.boxed h1 (by omega), h3, h4.trans ((hk.mono fun b _ hb => by omega).below h4.size)⟩
    case round =>
      rintro ll pre ⟨xi, x⟩ rest Pv G args Wr hll hxs ⟨hge, hK1, hE1, hE2, hE3, hE4⟩ hPl hGl hPb hGP ⟨p, rfl, hp, rfl⟩
      have hxm : (xi, x) ∈ xs := by rw [hxs]; simp
      have hxl := hsmall _ hxm
      simp only at hxl hp
      obtain ⟨qx, cx, rfl, _, hnc, hcm, hbs, hblk⟩ := row_open hp
      have hlen : pre.length + rest.length + 1 = xs.length := by rw [hxs]; simp; omega
      clear hxs
      gi_wp2
      refine ⟨Keep.refl _ _, fun W2 hk2 hs2 r hr => ?_⟩
      have k2 : Keep (fun b => b < W1.heap.size) Wr W2 := hk2.mono fun b _ hb h => by omega
      have f1 := k2.boxed hE1 (by omega)
      have f2 := k2.boxed hE2 (by omega)
      have gx : Keep (fun b => (Value.slice qx x.length cx).ownBlock = some b) Wr W2 := hk2.mono fun b _ hb h => hGl (h ▸ hb)
      have hbs2 : Lib.BytesIn W2 qx x.length (Lib.numsL x) := bytes_keep hbs gx (fun a ha _ => (hblk a ha).2.2)
      have con2 := Number_any qx x.length cx x 255 W2 rfl (by omega) hbs2 (by decide) (by decide)
      rw [numOf_ref] at con2
      unfold numV at con2
      have c1 := f1.cell
      have c2 := f2.cell
      have z1 := f1.frozen
      have z2 := f2.frozen
      have hW2 := hE4.trans ((k2.mono fun b _ h => by omega).below hE4.size)
      have hs2' := hE4.size
      have hK2 := hK1.trans (hk2.mono fun _ _ h => h.elim)
      clear hbs hp hbs2 hblk hk2 gx
      cases ho : Ref.numOf 255 x with
      | none =>
        have HB := Lib.hid (show xs.all (fun x => Ref.numB x.2) = false by
          rw [List.all_eq_false]; exact ⟨_, hxm, by unfold Ref.numB; rw [ho]; simp⟩)
        rw [ho] at con2
        clear ho hxm
        gi_wp2_with fail
        refine ⟨trivial, rfl, (CallsIn.inRound ll (callsIn_wide.2 con2)).mono ?_⟩
        rintro e w' ⟨rfl, rfl⟩
        clear con2
        gi_wp2
        refine ⟨Keep.setCell _ _ _ (fun h => ?_), rfl, fun b hb => hge b hb.1, hK2.trans (Keep.setCell _ _ _ (fun h => h)), f1.set _, HB.out, hW2.setCell (p := ⟨w.heap.size, 0, none⟩) (Nat.le_refl _) _⟩
        rcases h with h | h
        · have := (hRl _ h).1; simp only at this; omega
        · have := hge _ h.1; simp only at this; omega
      | some m =>
        have HB := Lib.hid (show (pre ++ [(xi, x)]).all (fun x => Ref.numB x.2) = true by
          rw [List.all_append, hE3]; simp [Ref.numB, ho])
        have HPL := Lib.hid (show ((pre ++ [(xi, x)]).length : Int) = (pre.length : Int) + 1 by simp)
        have hpl : (pre.length : Int) + 1 ≤ 9223372036854775807 := by omega
        rw [ho] at con2
        clear ho hxm
        gi_wp2_with fail
        refine ⟨trivial, rfl, (CallsIn.inRound ll (callsIn_wide.2 con2)).mono ?_⟩
        rintro e w' ⟨rfl, rfl⟩
        clear con2
        gi_wp2
        have kst : ∀ S : Nat → Prop, ¬ S (w.heap.size + 1) → Keep S W2 (W2.setCell ⟨w.heap.size + 1, 0, none⟩ (.int .i64 ((pre.length : Int) + 1))) := fun S h => Keep.setCell _ _ _ h
        refine ⟨kst _ (fun h => ?_), fun b hb => hge b hb.1, hK2.trans (kst _ (fun h => h)), (kst (fun b => b = w.heap.size) (by omega)).boxed f1 rfl, by rw [HPL.out]; exact f2.set _, HB.out, hW2.setCell (p := ⟨w.heap.size + 1, 0, none⟩) (Nat.le_succ _) _⟩
        rcases h with h | h
        · have := (hRl _ h).1; omega
        · have := hge _ h.1; omega
    case done =>
      rintro D Pv Wd hD hPD hPl ⟨hge, hK1, hE1, hE2, hE3, hE4⟩ hK
      have c1 := hE1.cell
      have c2 := hE2.cell
      have z1 := hE1.frozen
      have z2 := hE2.frozen
      gi_wp2
      have hKd : (Wd.setCell ⟨w.heap.size, 0, none⟩ (.bool ((xs.length : Int) == 4))).heap[D]? = some (.deferred (some [])) := (Keep.setCell (S := fun b => b = D) Wd ⟨w.heap.size, 0, none⟩ _ (show ¬ w.heap.size = D by omega)).heap rfl hK
      have kp : ∀ (S : Nat → Prop) (W : World), ¬ S D → Keep S W (W.putObj D (.deferred none)) := fun S W h => Keep.putObj _ _ _ h
      refine ⟨by simp, .inl ⟨_, _, rfl, run_takeDeferred hKd, ?_⟩⟩
      refine ⟨_, results_bool rfl _ _ w.heap.size _ rfl ((kp (fun b => b = w.heap.size) _ (by omega)).boxed (hE1.set _) rfl).cell, ?_, ?_⟩
      · rw [HA.out, hE3, Bool.and_true]
        congr 2
        rw [Bool.eq_iff_iff, decide_eq_true_iff, beq_iff_eq]; omega
      · have h5 := hE4.setCell (p := ⟨w.heap.size, 0, none⟩) (Nat.le_refl _) (.bool ((xs.length : Int) == 4))
        exact h5.trans ((kp (fun b => b < w.heap.size) _ (by omega)).below h5.size)
    case stop =>
      rintro D cc pre rest Pv Wd hD hPD hPl hxs ⟨rfl, hge, hK1, hE1, hE3, hE4⟩ hK
      have kp : ∀ (S : Nat → Prop) (W : World), ¬ S D → Keep S W (W.putObj D (.deferred none)) := fun S W h => Keep.putObj _ _ _ h
      clear hxs
      gi_wp2
      refine ⟨by simp, .inl ⟨_, _, rfl, run_takeDeferred hK, ?_⟩⟩
      refine ⟨_, results_bool rfl _ _ w.heap.size _ rfl ((kp (fun b => b = w.heap.size) _ (by omega)).boxed hE1 rfl).cell, ?_, ?_⟩
      · rw [HA.out, hE3, Bool.and_false]
      · exact hE4.trans ((kp (fun b => b < w.heap.size) _ (by omega)).below hE4.size)
end Go.Proofs.YtedglpfdibamdaaGreatDoor.Host
namespace Go.Proofs.YtedglpfdibamdaaGreatDoor
open Go.RowKit Go.Shelf
end Go.Proofs.YtedglpfdibamdaaGreatDoor
namespace Go.Proofs.YtedglpfdibamdaaGreatDoor.S
open Go.RowKit Go.Shelf
attribute [local go_sem] Oper.semAt_some
end Go.Proofs.YtedglpfdibamdaaGreatDoor.S
namespace Go.Proofs.YtedglpfdibamdaaGreatDoor.Host
open Go.RowKit Go.Shelf
attribute [local go_sem] Oper.semAt_some
def lastX (xs : List (Nat × List UInt8)) : List UInt8 := (xs.getLast?.map Prod.snd).getD []
theorem lastX_snoc (pre : List (Nat × List UInt8)) (x : Nat × List UInt8) : lastX (pre ++ [x]) = x.2 := by simp [lastX]
theorem lastX_mem (xs : List (Nat × List UInt8)) (h : xs ≠ []) : ∃ x ∈ xs, lastX xs = x.2 := by
  refine ⟨xs.getLast h, List.getLast_mem h, ?_⟩
  unfold lastX
  rw [List.getLast?_eq_some_getLast h]; rfl
theorem hostX (l : List UInt8) : hostB (Ref.splitL 46 l) = (decide ((splitX 46 l).length ≤ 8) && ((splitX 46 l).all fun x => partB x.2) && (!Ref.decB ((lastX (splitX 46 l)).getD 0 0) || addrB (Ref.splitL 46 l))) := by
  have e1 : (Ref.splitL 46 l).getLastD [] = lastX (splitX 46 l) := by
    rw [← splitX_snd, List.getLastD_eq_getLast?, List.getLast?_map]; rfl
  have e2 : (Ref.splitL 46 l).all partB = (splitX 46 l).all fun x => partB x.2 := by rw [← splitX_snd, List.all_map]; rfl
  unfold hostB
  rw [e1, e2, ← splitX_length]
def HsI (w W1 : World) (pre : List (Nat × List UInt8)) (Pv : Nat → Prop) (W : World) : Prop :=
  ∃ q c, Boxed W w.heap.size 4 (.bool false) ∧ Boxed W (w.heap.size + 1) 22 (.slice q (lastX pre).length c) ∧ Boxed W (w.heap.size + 2) 3 (.int .i64 pre.length) ∧
    W.ownsRow 0 5 1 (.slice q (lastX pre).length c) (lastX pre).length ((Lib.numsL (lastX pre)).map (Value.int .u8)) ∧ (∀ b, (Value.slice q (lastX pre).length c).ownBlock = some b → W1.heap.size ≤ b ∧ ¬ Pv b) ∧
    (∀ b, Pv b → W1.heap.size ≤ b) ∧ Keep (fun _ => False) W1 W ∧ (pre.all fun x => partB x.2) = true ∧ pre.length ≤ 8 ∧ Below w.heap.size w W
theorem HsI_abide {w W1 : World} (h : w.heap.size + 3 ≤ W1.heap.size) : Abide (HsI w W1) := by
  rintro pre Pv Pv' A B ⟨q, c, h1, h2, h3, h4, h5, h6, h7, h8, h9, h10⟩ hk hp
  have kk : ∀ b, b < W1.heap.size → ¬ Pv b := fun b hb hn => by have := h6 b hn; omega
  have hs := h7.size
  refine ⟨q, c, hk.boxed h1 (kk _ (by omega)), hk.boxed h2 (kk _ (by omega)), hk.boxed h3 (kk _ (by omega)), hk.row h4 (fun b hb => (h5 b hb).2), fun b hb => ⟨(h5 b hb).1, fun hp' => ?_⟩, fun b hb => ?_, h7.trans (hk.mono fun _ _ h => h.elim), h8, h9, h10.trans ((hk.mono fun b _ hb => kk b (by omega)).below h10.size)⟩
  · rcases (hp b hp').1 with h' | h'
    · exact (h5 b hb).2 h'
    · have := (h4.lt b hb).2; omega
  · rcases (hp b hb).1 with h' | h'
    · exact h6 b h'
    · omega
def HsE (w : World) (r : Bool) (_ : List (Nat × List UInt8)) (W : World) : Prop := Boxed W w.heap.size 4 (.bool false) ∧ r = false ∧ Below w.heap.size w W
set_option maxRecDepth 100000 in
set_option maxHeartbeats 8000000 in
theorem isHost_any (q : Option Addr) (n c : Nat) (l : List UInt8) (w : World) (hl : l.length = n) (hn : n ≤ 253) (h : Lib.BytesIn w q n (Lib.numsL l)) :
    Calls Tryz.prog 138 #[.slice q n c] w fun e w' => e = .returned (.bool (hostB (Ref.splitL 46 l))) ∧ Below w.heap.size w w' := by
  refine (callsIn_wide (n := 1)).1 ?_
  refine callsIn_of_wp_marks Tryz.func138 rfl trivial ?_ rfl
  simp only [Tryz.ntmps138, List.size_toArray, List.length_cons, List.length_nil, Nat.reduceAdd, Nat.reduceSub, Array.replicate_succ, Array.replicate_zero, List.push_toArray, List.append_toArray, List.nil_append, List.cons_append]
  obtain ⟨W0, hW0⟩ : ∃ W0, ((w.alloc (.cells #[.bool false] 4)).alloc (.cells #[.slice none 0 0] 22)).alloc (.cells #[.int .i64 0] 3) = W0 := ⟨_, rfl⟩
  have b0 : Boxed W0 w.heap.size 4 (.bool false) := hW0 ▸ ((Boxed.new w _ _).alloc _).alloc _
  have b1 : Boxed W0 (w.heap.size + 1) 22 (.slice none 0 0) := by
    have := (Boxed.new (w.alloc (.cells #[.bool false] 4)) 22 (.slice none 0 0)).alloc (.cells #[.int .i64 0] 3)
    rw [World.size_alloc] at this
    exact hW0 ▸ this
  have b2 : Boxed W0 (w.heap.size + 2) 3 (.int .i64 0) := by
    have := Boxed.new ((w.alloc (.cells #[.bool false] 4)).alloc (.cells #[.slice none 0 0] 22)) 3 (.int .i64 0)
    rw [World.size_alloc, World.size_alloc] at this
    exact hW0 ▸ this
  have hB0 : Below w.heap.size w W0 := hW0 ▸ (((Below.refl _ w).alloc (Nat.le_refl _) _).alloc (by simp) _).alloc (by simp only [World.size_alloc]; omega) _
  have hs0 : W0.heap.size = w.heap.size + 3 := by rw [← hW0]; simp
  have hql := bytes_lt h
  have hb0 := bytes_keep h (Keep.of_below hB0) (fun a h1 h2 => bytes_lt h a h1 h2)
  have con := Split_any q n c 46 l W0 hl (by omega) hb0
  have hsmall := splitX_small 46 l n hl
  have hlenX := splitX_len 46 l
  have hneX : 0 < (splitX 46 l).length := by rw [splitX_length]; exact List.length_pos_iff.2 (Ref.split_ne 46 l)
  rw [hl] at hlenX
  have HW0 := Lib.hid hW0
  have HX := Lib.hid (hostX l)
  have HA := Lib.hid (address_of l (by omega))
  have conA := fun W hb => Address_any q n c l W hl (by omega) hb
  clear hW0 hb0 hl
  generalize addrB (Ref.splitL 46 l) = ab at *
  generalize hostB (Ref.splitL 46 l) = hb at *
  generalize addressB l = ad at *
  gi_wp2_with fail
  rw [HW0.out]
  refine ⟨trivial, (callsIn_wide.2 con).mono ?_⟩
  rintro e W1 ⟨B, v', rfl, hB, hBc, hrow, hBl, hbel⟩
  have hit := Split_iter (by omega) hB hBc hrow
  have hRl0 : ∀ b, (b = B ∨ b = W0.heap.size ∨ v'.ownBlock = some b) → w.heap.size + 3 ≤ b ∧ b < W1.heap.size := fun b hb => by
    rcases hb with rfl | rfl | hb
    · exact ⟨by omega, hB.lt⟩
    · exact ⟨by omega, hBc.lt⟩
    · have := hrow.lt b hb; exact ⟨by omega, this.2⟩
  obtain ⟨RB, hRB⟩ : ∃ RB : Nat → Prop, RB = fun b => b = B ∨ b = W0.heap.size ∨ v'.ownBlock = some b := ⟨_, rfl⟩
  rw [← hRB, hs0] at hit
  have hRl : ∀ b, RB b → w.heap.size + 3 ≤ b ∧ b < W1.heap.size := fun b hb => hRl0 b (by rw [hRB] at hb; exact hb)
  clear hRB hRl0
  replace b0 := (Keep.of_below hbel).boxed b0 (by omega)
  replace b1 := (Keep.of_below hbel).boxed b1 (by omega)
  replace b2 := (Keep.of_below hbel).boxed b2 (by omega)
  have hB1 := hB0.trans (hbel.mono hB0.size)
  have hs1 := hbel.size
  clear con hB hBc hrow hBl hbel HW0 hB0
  generalize splitX 46 l = xs at *
  gi_wp2
  rw [hs0] at hs1
  clear hs0
  refine rf_law (gf := 119) (lb := #[.pointer (some ⟨B, 0, none⟩), .pointer (some ⟨w.heap.size + 3, 0, none⟩)]) rfl (enters_of Tryz.func119 (by kernel_rfl) rfl)
    hit (Keep.refl _ _) (fun b hb => (hRl b hb).2) (fun x args G W h => by obtain ⟨v, rfl, _⟩ := h; rfl)
    (HsI w W1) (EvX W1 (HsE w hb)) (HsI_abide hs1) (EvX_abide ?e2)
    ⟨none, 0, b0, b1, b2, World.ownsRow_nil _ _ _ _, (fun _ h => by cases h), (fun _ h => h.elim), Keep.refl _ _, rfl, Nat.zero_le _, hB1⟩ ?round ?done ?stop
  case e2 =>
    rintro pre A B hk ⟨h1, h3, h4⟩
    exact ⟨hk.boxed h1 (by omega), h3, h4.trans ((hk.mono fun b _ hb => by omega).below h4.size)⟩
  case round =>
    rintro ll pre ⟨xi, x⟩ rest Pv G args Wr hll hxs ⟨q1, c1, hE1, hE2, hE3, hE4, hE5, hge, hK1, hE6, hE7, hE8⟩ hPl hGl hPb hGP ⟨p, rfl, hp, rfl⟩
    have hxm : (xi, x) ∈ xs := by rw [hxs]; simp
    have hxl := hsmall _ hxm
    simp only at hxl hp
    obtain ⟨qx, cx, rfl, _, hnc, hcm, hbs, hblk⟩ := row_open hp
    have hlen : pre.length + rest.length + 1 = xs.length := by rw [hxs]; simp; omega
    clear hxs
    gi_wp2
    refine ⟨Keep.refl _ _, fun W2 hk2 hs2 r hr => ?_⟩
    have k2 : Keep (fun b => b < W1.heap.size) Wr W2 := hk2.mono fun b _ hb h => by omega
    have f1 := k2.boxed hE1 (by omega)
    have f2 := k2.boxed hE2 (by omega)
    have f3 := k2.boxed hE3 (by omega)
    have gx : Keep (fun b => (Value.slice qx x.length cx).ownBlock = some b) Wr W2 := hk2.mono fun b _ hb h => hGl (h ▸ hb)
    have hbs2 : Lib.BytesIn W2 qx x.length (Lib.numsL x) := bytes_keep hbs gx (fun a ha _ => (hblk a ha).2.2)
    have hp2 := gx.row hp (fun _ h => h)
    have con2 := isPart_any qx x.length cx x W2 rfl (by omega) hbs2
    have k1 := f1.cell
    have k2' := f2.cell
    have k3 := f3.cell
    have z1 := f1.frozen
    have z2 := f2.frozen
    have z3 := f3.frozen
    have hW2 := hE8.trans ((k2.mono fun b _ h => by omega).below hE8.size)
    have hs2' := hE8.size
    have hK2 := hK1.trans (hk2.mono fun _ _ h => h.elim)
    have hGge : ∀ b, (Value.slice qx x.length cx).ownBlock = some b → W1.heap.size ≤ b := fun b h => hge b (hGP b h)
    have keep0 : Keep (fun b => RB b ∨ (Pv b ∧ ¬ (Value.slice qx x.length cx).ownBlock = some b)) W2 (W2.setCell ⟨w.heap.size, 0, none⟩ (.bool false)) := Keep.setCell _ _ _ fun h => by
      rcases h with h | h
      · have := (hRl _ h).1; simp only at this; omega
      · have := hge _ h.1; simp only at this; omega
    clear hbs hp hbs2 hblk hk2 gx hE4 hE5
    by_cases h8 : pre.length = 8
    · have HB := Lib.hid (show hb = false by rw [HX.out, decide_eq_false (by omega)]; rfl)
      have e8 : ((pre.length : Int) == 8) = true := by rw [beq_iff_eq]; omega
      clear con2 hxm h8
      gi_wp2_with fail
      refine ⟨trivial, ?_⟩
      gi_wp2
      exact ⟨keep0, rfl, fun b hb => hge b hb.1, hK2.trans (Keep.setCell _ _ _ (fun h => h)), f1.set _, HB.out, hW2.setCell (p := ⟨w.heap.size, 0, none⟩) (Nat.le_refl _) _⟩
    · have e8 : ((pre.length : Int) == 8) = false := by rw [beq_eq_false_iff_ne]; omega
      cases hpb : partB x with
      | false =>
        have HB := Lib.hid (show hb = false by
          have h1 : (xs.all fun x => partB x.2) = false := by rw [List.all_eq_false]; exact ⟨_, hxm, by rw [hpb]; simp⟩
          rw [HX.out, h1]; simp)
        rw [hpb] at con2
        clear hpb hxm h8
        gi_wp2_with fail
        refine ⟨trivial, rfl, (CallsIn.inRound ll (callsIn_wide.2 con2)).mono ?_⟩
        rintro e w' ⟨rfl, rfl⟩
        clear con2
        gi_wp2
        exact ⟨keep0, rfl, fun b hb => hge b hb.1, hK2.trans (Keep.setCell _ _ _ (fun h => h)), f1.set _, HB.out, hW2.setCell (p := ⟨w.heap.size, 0, none⟩) (Nat.le_refl _) _⟩
      | true =>
        have HB := Lib.hid (show ((pre ++ [(xi, x)]).all fun x => partB x.2) = true by rw [List.all_append, hE6]; simp [hpb])
        have HPL := Lib.hid (show ((pre ++ [(xi, x)]).length : Int) = (pre.length : Int) + 1 by simp)
        have HP8 := Lib.hid (show (pre ++ [(xi, x)]).length ≤ 8 by simp; omega)
        have HLX := Lib.hid (lastX_snoc pre (xi, x))
        rw [hpb] at con2
        clear hpb hxm h8 keep0 HX
        gi_wp2_with fail
        refine ⟨trivial, rfl, (CallsIn.inRound ll (callsIn_wide.2 con2)).mono ?_⟩
        rintro e w' ⟨rfl, rfl⟩
        clear con2
        gi_wp2
        have kst : ∀ S : Nat → Prop, ¬ S (w.heap.size + 1) → ¬ S (w.heap.size + 2) → Keep S W2 ((W2.setCell ⟨w.heap.size + 1, 0, none⟩ (.slice qx x.length cx)).setCell ⟨w.heap.size + 1 + 1, 0, none⟩ (.int .i64 ((pre.length : Int) + 1))) := fun S h h' => (Keep.setCell _ _ _ h).trans (Keep.setCell _ _ _ h')
        have g1 := (kst (fun b => b = w.heap.size) (by omega) (by omega)).boxed f1 rfl
        have g2 := (Keep.setCell (S := fun b => b = w.heap.size + 1) (W2.setCell ⟨w.heap.size + 1, 0, none⟩ (.slice qx x.length cx)) ⟨w.heap.size + 1 + 1, 0, none⟩ (.int .i64 ((pre.length : Int) + 1)) (show ¬ w.heap.size + 1 + 1 = w.heap.size + 1 by omega)).boxed (f2.set (.slice qx x.length cx)) rfl
        have g3 := ((Keep.setCell (S := fun b => b = w.heap.size + 2) W2 ⟨w.heap.size + 1, 0, none⟩ (.slice qx x.length cx) (show ¬ w.heap.size + 1 = w.heap.size + 2 by omega)).boxed f3 rfl).set (.int .i64 ((pre.length : Int) + 1))
        have g4 := (kst (fun b => (Value.slice qx x.length cx).ownBlock = some b) (fun h => by have := hGge _ h; omega) (fun h => by have := hGge _ h; omega)).row hp2 (fun _ h => h)
        have g5 := (hW2.setCell (p := ⟨w.heap.size + 1, 0, none⟩) (Nat.le_succ _) (.slice qx x.length cx)).setCell (p := ⟨w.heap.size + 1 + 1, 0, none⟩) (show w.heap.size ≤ w.heap.size + 1 + 1 by omega) (.int .i64 ((pre.length : Int) + 1))
        have g6 := hK2.trans (kst (fun _ => False) (fun h => h) (fun h => h))
        refine ⟨kst _ (fun h => ?_) (fun h => ?_), ?_⟩
        · rcases h with h | h
          · have := (hRl _ h).1; omega
          · have := hge _ h.1; omega
        · rcases h with h | h
          · have := (hRl _ h).1; omega
          · have := hge _ h.1; omega
        · unfold HsI
          rw [HLX.out, HPL.out]
          exact ⟨qx, cx, g1, g2, g3, g4, fun b h => ⟨hGge b h, fun h' => h'.2 h⟩, fun b h => hge b h.1, g6, HB.out, HP8.out, g5⟩
  case done =>
    rintro D Pv Wd hD hPD hPl ⟨q1, c1, hE1, hE2, hE3, hE4, hE5, hge, hK1, hE6, hE7, hE8⟩ hK
    obtain ⟨y, hym, hyl⟩ := lastX_mem xs (List.length_pos_iff.1 hneX)
    have hpy := List.all_eq_true.1 hE6 y hym
    rw [← hyl] at hpy
    have hx8 := decide_eq_true hE7
    have HXX := Lib.hid (show hb = (!Ref.decB ((lastX xs).getD 0 0) || ab) by rw [HX.out, hx8, hE6]; simp)
    obtain ⟨_, _, hcl, _, hnc, hcm, hbs, hblk⟩ := row_open hE4
    cases hcl
    have hz : 0 < (lastX xs).length := by
      rcases Nat.eq_zero_or_pos (lastX xs).length with h0 | h0
      · rw [part_parts, List.eq_nil_of_length_eq_zero h0] at hpy; cases hpy
      · exact h0
    obtain ⟨bl, ol, rfl, hcl⟩ := hbs.at hz
    have ck0 : Wd.cell? ⟨bl, ol, none⟩ = some (.int .u8 (((lastX xs).getD 0 0).toNat : Int)) := by rw [← numsL_getD _ 0 hz]; exact hcl 0 hz
    have k2 := hE2.cell
    have k1 := hE1.cell
    have z1 := hE1.frozen
    have kp : ∀ (S : Nat → Prop) (W : World), ¬ S D → Keep S W (W.putObj D (.deferred none)) := fun S W h => Keep.putObj _ _ _ h
    have conB := conA Wd (bytes_keep h (Keep.of_below hE8) (fun a h1 h2 => hql a h1 h2))
    rw [HA.out] at conB
    have hszd := hE8.size
    have hDl := hPl D hPD
    generalize (lastX xs).getD 0 0 = y0 at *
    have con5 := isDigit_any y0 Wd
    have hy0 := Ref.u8_lt y0
    clear hE4 hE5 hym hyl hpy hcl hbs hblk hE2 hE3 HX hx8 hE6 hE7 conA h hsmall
    cases hd : Ref.decB y0 with
    | false =>
      have HB := Lib.hid (show hb = true by rw [HXX.out, hd]; rfl)
      rw [hd] at con5
      clear hd HXX conB
      gi_wp2_with fail
      refine ⟨trivial, (callsIn_wide.2 con5).mono ?_⟩
      rintro e w' ⟨rfl, rfl⟩
      clear con5
      gi_wp2_with fail
      refine ⟨trivial, ?_⟩
      gi_wp2
      have hKd : (Wd.setCell ⟨w.heap.size, 0, none⟩ (.bool true)).heap[D]? = some (.deferred (some [])) := (Keep.setCell (S := fun b => b = D) Wd ⟨w.heap.size, 0, none⟩ _ (show ¬ w.heap.size = D by omega)).heap rfl hK
      refine ⟨by simp, .inl ⟨_, _, rfl, run_takeDeferred hKd, ?_⟩⟩
      refine ⟨_, results_bool rfl _ _ w.heap.size _ rfl ((kp (fun b => b = w.heap.size) _ (by omega)).boxed (hE1.set _) rfl).cell, ?_, ?_⟩
      · rw [HB.out]
      · have h5 := hE8.setCell (p := ⟨w.heap.size, 0, none⟩) (Nat.le_refl _) (.bool true)
        exact h5.trans ((kp (fun b => b < w.heap.size) _ (by omega)).below h5.size)
    | true =>
      have HB := Lib.hid (show hb = ab by rw [HXX.out, hd]; rfl)
      rw [hd] at con5
      clear hd HXX
      gi_wp2_with fail
      refine ⟨trivial, (callsIn_wide.2 con5).mono ?_⟩
      rintro e w' ⟨rfl, rfl⟩
      clear con5
      gi_wp2_with fail
      refine ⟨trivial, (callsIn_wide.2 conB).mono ?_⟩
      rintro e w4 ⟨rfl, hb4⟩
      clear conB
      have e1 := (Keep.of_below hb4).boxed hE1 hE1.lt
      have k14 := e1.cell
      have z14 := e1.frozen
      have hK4 : w4.heap[D]? = some (.deferred (some [])) := (hb4.block D hDl).trans hK
      have hE4 := hE8.trans (hb4.mono hszd)
      gi_wp2
      have hKd : (w4.setCell ⟨w.heap.size, 0, none⟩ (.bool ab)).heap[D]? = some (.deferred (some [])) := (Keep.setCell (S := fun b => b = D) w4 ⟨w.heap.size, 0, none⟩ _ (show ¬ w.heap.size = D by omega)).heap rfl hK4
      refine ⟨by simp, .inl ⟨_, _, rfl, run_takeDeferred hKd, ?_⟩⟩
      refine ⟨_, results_bool rfl _ _ w.heap.size _ rfl ((kp (fun b => b = w.heap.size) _ (by omega)).boxed (e1.set _) rfl).cell, ?_, ?_⟩
      · rw [HB.out]
      · have h5 := hE4.setCell (p := ⟨w.heap.size, 0, none⟩) (Nat.le_refl _) (.bool ab)
        exact h5.trans ((kp (fun b => b < w.heap.size) _ (by omega)).below h5.size)
  case stop =>
    rintro D cc pre rest Pv Wd hD hPD hPl hxs ⟨rfl, hge, hK1, hE1, hE3, hE4⟩ hK
    have kp : ∀ (S : Nat → Prop) (W : World), ¬ S D → Keep S W (W.putObj D (.deferred none)) := fun S W h => Keep.putObj _ _ _ h
    clear hxs
    gi_wp2
    refine ⟨by simp, .inl ⟨_, _, rfl, run_takeDeferred hK, ?_⟩⟩
    refine ⟨_, results_bool rfl _ _ w.heap.size _ rfl ((kp (fun b => b = w.heap.size) _ (by omega)).boxed hE1 rfl).cell, ?_, ?_⟩
    · rw [hE3]
    · exact hE4.trans ((kp (fun b => b < w.heap.size) _ (by omega)).below hE4.size)
end Go.Proofs.YtedglpfdibamdaaGreatDoor.Host
namespace Go.Proofs.YtedglpfdibamdaaGreatDoor.S
open Go.RowKit Go.Shelf
attribute [local go_sem] Oper.semAt_some
theorem wpIn_append_own {F : Fence} {nF : Nat} {P : Program} {o : Oper} {a : Act} {w : World} {K : Act → World → Prop} {Q : Exit → Act → World → Prop} (s x : Operand) (t : TypeId)
    (ho : o.op = .call { callee := .builtin .append, args := #[s, x], argTypes := #[t, t] })
    (base : Nat) (e : TypeId) (i : TypeInfo) (z : Value) (size bytes : Nat) (ht : P.underlying t = some (.slice e)) (hi : P.info? e = some i) (hz : i.zero = some z)
    (hsize : i.size = size) (hby : i.bytes = bytes) (hzs : z.cells.size = size) (hsz : 0 < size)
    (v : Value) (n : Nat) (xs : List Value) (hs : a.eval s = v) (hown : w.ownsRow base e size v n xs)
    (ad : Addr) (m c : Nat) (news : List Value) (hx : a.eval x = .slice (some ad) m c) (hl : news.length = m * size) (hnews : ∀ j u, news[j]? = some u → w.cell? (ad.add j) = some u) (h1 : ∀ u ∈ news, u.oneCell' = true)
    (h63 : n + m ≤ maxLen) (hbytes : (n + m) * bytes ≤ 140737488355328) (hbase : base ≤ w.heap.size)
    (h : ∀ v' w', w'.ownsRow base e size v' (n + m) (xs ++ news) → w.grownBy w' v.ownBlock → (v'.ownBlock = v.ownBlock ∨ v'.ownBlock = some w.heap.size) → K (a.put o.dst v') w') : Oper.wpIn F nF P o a w K Q := by
  obtain ⟨v', w', hr, h2, h3, _, h5⟩ := run_append_own_at (P := P) w base t o.type e i z size bytes ht hi hz hsize hby hzs hsz v n xs hown ad m c news hl hnews h1 h63 hbytes hbase
  unfold Oper.wpIn
  refine ⟨by simp [Oper.about, ho, resolve, Target.leads, Sem.run_pure], ?_⟩
  rw [Oper.semAt_plain F _ _ (by rw [ho]; intro c hc'; cases hc')]
  simp [execOp, ho, resolve, invoke, builtin, hs, hx, hr, Result.andThen]
  exact h v' w' h2 h3 h5
end Go.Proofs.YtedglpfdibamdaaGreatDoor.S
namespace Go.Proofs.YtedglpfdibamdaaGreatDoor.Url
open Go.RowKit Go.Shelf
attribute [local go_sem] Oper.semAt_some
def By (w : World) (v : Value) (l : List UInt8) : Prop :=
  ∃ q c, v = .slice q l.length c ∧ l.length ≤ c ∧ c ≤ maxLen ∧ (q = none → c = 0) ∧ Lib.BytesIn w q l.length (Lib.numsL l)
theorem by_nil (w : World) : By w (.slice none 0 0) [] := ⟨none, 0, rfl, Nat.le_refl _, Nat.zero_le _, fun _ => rfl, Lib.BytesIn.nil _ _ _⟩
theorem bytes_on {w w' : World} {q : Option Addr} {n : Nat} {xs : List Int} (h : Lib.BytesIn w q n xs) (hk : Below w.heap.size w w') : Lib.BytesIn w' q n xs := bytes_keep h (Keep.of_below hk) (bytes_lt h)
theorem By.on {w w' : World} {v : Value} {l : List UInt8} (h : By w v l) (hk : Below w.heap.size w w') : By w' v l := by
  obtain ⟨q, c, h1, h2, h3, h4, h5⟩ := h
  exact ⟨q, c, h1, h2, h3, h4, bytes_on h5 hk⟩
theorem By.drew {w : World} {v : Value} {l : List UInt8} (h : By w v l) : By w.drew v l := h
theorem By.row {w : World} {base n : Nat} {v : Value} {l : List UInt8} (h : w.ownsRow base 5 1 v n ((Lib.numsL l).map (Value.int .u8))) : By w v l := by
  obtain ⟨q, c, rfl, rfl, h2, h3, h4, h5⟩ := row_open h
  refine ⟨q, c, rfl, h2, h3, fun hq => ?_, h4⟩
  subst hq
  rcases h.2 with ⟨hv, _⟩ | ⟨g, cap, cur, hv, _⟩
  · injection hv
  · cases hv
theorem below_drewN (w : World) (m : Nat) : Below w.heap.size w (w.drewN m) := ⟨rfl, rfl, rfl, Nat.le_refl _, fun _ _ => rfl⟩
theorem By.at {w : World} {q : Option Addr} {n c : Nat} {l : List UInt8} (h : By w (.slice q n c) l) : l.length = n ∧ n ≤ c ∧ c ≤ maxLen ∧ (q = none → n = 0 ∧ c = 0) ∧ Lib.BytesIn w q n (Lib.numsL l) := by
  obtain ⟨q', c', he, h2, h3, h4, h5⟩ := h
  cases he
  exact ⟨rfl, h2, h3, fun hq => by have := h4 hq; omega, h5⟩
theorem By.of {w : World} {q : Option Addr} {n c : Nat} {l : List UInt8} (h1 : l.length = n) (h2 : n ≤ c) (h3 : c ≤ maxLen) (h4 : q = none → c = 0) (h5 : Lib.BytesIn w q n (Lib.numsL l)) : By w (.slice q n c) l := by
  subst h1; exact ⟨q, c, rfl, h2, h3, h4, h5⟩
theorem run_slice_at (q : Option Addr) (n c i : Nat) (W : World) (hi : i ≤ n) :
    (Instr.slice 22 (.slice q n c) (some (.int .i64 (i : Int))) none none).run Tryz.prog W = .ok (.slice (subA q c i) (n - i) (c - i)) W := by
  have hs : ∀ w, (Go.sizeOf 5).run Tryz.prog w = .ok 1 w := Tryz.sizeOf5
  have he : Tryz.prog.elem 22 = 5 := by kernel_rfl
  have h := run_slice_l (P := Tryz.prog) (w := W) 22 q n c (by rw [he]; exact Tryz.underlying22) .i64 (i : Int) (by omega) (by omega)
  rw [h, he, hs]
  simp only [Result.andThen, sliced, subA, Nat.mul_one, Int.toNat_natCast]
theorem subA_none {q : Option Addr} {c l : Nat} (h : subA q c l = none) : q = none := by
  unfold subA at h
  split at h
  · exact h
  · cases q with
    | none => rfl
    | some a => simp at h
theorem By.sub {w : World} {q : Option Addr} {n c i j : Nat} {l : List UInt8} (h : By w (.slice q n c) l) (hij : i ≤ j) (hj : j ≤ n) : By w (.slice (subA q c i) (j - i) (c - i)) (sub l i j) := by
  obtain ⟨h1, h2, h3, h4, h5⟩ := h.at
  exact By.of (sub_length l i j (by omega)) (by omega) (by omega) (fun hq => by have := h4 (subA_none hq); omega) (bytes_sub h5 h1 hij hj h2)
set_option maxRecDepth 100000 in
set_option maxHeartbeats 8000000 in
theorem atSlash_any (q : Option Addr) (n c : Nat) (l : List UInt8) (w : World) (h : By w (.slice q n c) l) :
    Calls Tryz.prog 149 #[.slice q n c] w fun e w' => ∃ v1 v2, e = .returned (.tuple #[v1, v2]) ∧ By w v1 (aheadL 47 l) ∧ By w v2 (l.drop (aheadL 47 l).length) ∧ Below w.heap.size w w' ∧ w'.heap = w.heap := by
  obtain ⟨hl, hnc, hcm, hnil, hb⟩ := h.at
  have hix := IndexByte_any q n c l 47 w hl hnil hb
  have hge := Lib.indexByte_ge l 47
  have hlt := index_lt l 47
  have ha := (at_ahead 47 l).1
  by_cases h0 : 0 ≤ Lib.indexByte l 47
  · obtain ⟨k, hk⟩ : ∃ k : Nat, Lib.indexByte l 47 = (k : Int) := ⟨(Lib.indexByte l 47).toNat, by omega⟩
    obtain ⟨e1, _, _⟩ := at_found 47 l k hk
    rw [hk] at hix hlt
    have hkn : k < n := by omega
    have hlk : (l.take k).length = k := by rw [List.length_take]; omega
    have hb1 := h.sub (Nat.zero_le k) (by omega)
    have hb2 := h.sub (show k ≤ n from by omega) (Nat.le_refl n)
    rw [← ha, e1, hlk]
    rw [sub_to, Nat.sub_zero, Nat.sub_zero] at hb1
    rw [← hl, sub_from, hl] at hb2
    have hr1 : ∀ W, (Instr.slice 22 (.slice q n c) none (some (.int .i64 (k : Int))) none).run Tryz.prog W = .ok (.slice (subA q c 0) k c) W := fun W => run_slice_to q n c k W (by omega)
    have hr2 : ∀ W, (Instr.slice 22 (.slice q n c) (some (.int .i64 (k : Int))) none none).run Tryz.prog W = .ok (.slice (subA q c k) (n - k) (c - k)) W := fun W => run_slice_at q n c k W (by omega)
    clear e1 h0 hge hk h hlk ha hb hnil hl
    generalize l.take k = l1 at *
    generalize l.drop k = l2 at *
    generalize hqa : subA q c 0 = qa at *
    generalize hqb : subA q c k = qb at *
    clear hqa hqb
    go_enter Tryz.func149, Tryz.ntmps149
    go_wp2_with fail
    refine hix.mono ?_
    rintro e w' ⟨rfl, hw⟩
    subst hw
    go_wp2
    go_quiet (fail)
    go_wp2
    go_ret2
    exact ⟨_, _, rfl, hb1, hb2, below_drewN _ _, rfl⟩
  · have h1 : Lib.indexByte l 47 = -1 := by omega
    obtain ⟨e1, _, _⟩ := at_none 47 l h1
    rw [h1] at hix
    rw [← ha, e1, List.drop_length]
    clear e1 h0 hge h1 ha hb hnil hl
    go_enter Tryz.func149, Tryz.ntmps149
    go_wp2_with fail
    refine hix.mono ?_
    rintro e w' ⟨rfl, hw⟩
    subst hw
    go_wp2
    go_ret2
    exact ⟨_, _, rfl, h, by_nil _, Below.refl _ _, rfl⟩
end Go.Proofs.YtedglpfdibamdaaGreatDoor.Url
namespace Go.Proofs.YtedglpfdibamdaaGreatDoor.Url
open Go.RowKit Go.Shelf
attribute [local go_sem] Oper.semAt_some
def byV (l : List UInt8) : List Value := (Lib.numsL l).map (Value.int .u8)
theorem byV_app (l m : List UInt8) : byV (l ++ m) = byV l ++ byV m := by simp [byV, Lib.numsL]
set_option maxRecDepth 100000 in
set_option maxHeartbeats 4000000 in
theorem Grow_nil (n : Nat) (w : World) (h0 : 0 < n) (hn : n ≤ 1099511627776) :
    Calls Tryz.prog 213 #[.slice none 0 0, .int .i64 n] w fun e w' => ∃ v, e = .returned v ∧ w'.ownsRow w.heap.size 5 1 v 0 [] ∧ Below w.heap.size w w' := by
  obtain ⟨i0, hi0, hz0, hz1, hz2⟩ := info_parts info_u8
  have h1 : ¬ ((n : Int) < 0) := by omega
  have h4 : (n : Int) > 0 := by omega
  have h4' : decide (0 < n) = true := by simp; omega
  have hold : (Builtin.firstCells i0.size 0 (.slice none 0 0)).run Tryz.prog w.drew = .ok ([] : List Value).toArray w.drew := run_firstCells_none w.drew i0.size 0 0 0
  have hrz := Lib.run_append_grow_zeros (P := Tryz.prog) w 22 3 22 5 i0 (.int .u8 0) .i64 .i64 Tryz.underlying22 Tryz.underlying3 hi0 hz0 none 0 0 [] hold n h0 (by omega) (by omega) (by omega) (by rw [hz2]; omega)
    (growslice_fits (by omega) (by rw [hz2]; omega))
  simp only [Nat.zero_add] at hrz
  have hG : n ≤ grownCap w n 0 5 := grownCap_ge w _ _ _
  have hGm : grownCap w n 0 5 ≤ maxLen := grownCap_le_maxLen w n 0 5 (by unfold maxLen; omega)
  have hz : ∀ k, (Builtin.zeroCells (Value.int IntKind.u8 0).cells k).size = k := fun k => by simp [Builtin.zeroCells, Value.cells]
  have hsz : (([] : List Value).toArray ++ Builtin.zeroCells (Value.int IntKind.u8 0).cells n ++ Builtin.zeroCells (Value.int IntKind.u8 0).cells (grownCap w n 0 5 - n)).size = grownCap w n 0 5 * 1 := by
    rw [Array.size_append, Array.size_append, hz, hz, List.size_toArray, List.length_nil]; omega
  have hown := World.ownsRow_made (e := 5) (size := 1) (base := w.heap.size) w.drew _ (grownCap w n 0 5) (Nat.le_refl _) hGm hsz
  have hbel := (Below.refl w.heap.size w).drew.alloc (Nat.le_refl _) (.cells (([] : List Value).toArray ++ Builtin.zeroCells (Value.int IntKind.u8 0).cells n ++ Builtin.zeroCells (Value.int IntKind.u8 0).cells (grownCap w n 0 5 - n)) 5)
  have hgm : ((grownCap w n 0 5 : Nat) : Int) ≤ 9223372036854775807 := by unfold maxLen at hGm; omega
  clear hold hsz hGm hz
  generalize grownCap w n 0 5 = G at *
  generalize (([] : List Value).toArray ++ Builtin.zeroCells (Value.int IntKind.u8 0).cells n ++ Builtin.zeroCells (Value.int IntKind.u8 0).cells (G - n)) = cs at *
  go_enter Tryz.func213, Tryz.ntmps213
  go_wp2_with (at_builtin; refine Lib.wpList_append_run _ rfl _ _ _ _ rfl _ _ rfl rfl _ _ hrz ?_)
  go_ret
  exact ⟨_, rfl, hown, hbel⟩
theorem flat_take (ls : List (List UInt8)) (k : Nat) (h : k < ls.length) : (ls.take (k + 1)).flatten = (ls.take k).flatten ++ ls.getD k [] := by
  rw [List.take_succ_eq_append_getElem h, List.flatten_append]
  simp [List.getD, List.getElem?_eq_getElem h]
theorem flat_take_le (ls : List (List UInt8)) (k : Nat) : (ls.take k).flatten.length ≤ ls.flatten.length := by
  have h : ls.flatten = (ls.take k).flatten ++ (ls.drop k).flatten := by rw [← List.flatten_append, List.take_append_drop]
  rw [h, List.length_append]; omega
set_option maxRecDepth 100000 in
set_option maxHeartbeats 4000000 in
theorem Concat_any (b m c : Nat) (ls : List (List UInt8)) (w : World) (hm : ls.length = m) (hmm : m ≤ 1000) (hP : ∀ i, i < m → ∃ q n c, w.cell? ⟨b, i, none⟩ = some (.slice q n c) ∧ By w (.slice q n c) (ls.getD i [])) (hs : ls.flatten.length ≤ 1099511627776) (h0 : 0 < ls.flatten.length) :
    Calls Tryz.prog 190 #[.slice (some ⟨b, 0, none⟩) m c] w fun e w' => ∃ v, e = .returned v ∧ w'.ownsRow w.heap.size 5 1 v ls.flatten.length (byV ls.flatten) ∧ Below w.heap.size w w' := by
  obtain ⟨N, hN⟩ : ∃ N, ls.flatten.length = N := ⟨_, rfl⟩
  rw [hN] at hs h0 ⊢
  have HN := Lib.hid hN
  have HP := Lib.hid hP
  have HM := Lib.hid hm
  clear hN hP hm
  have hb : 0 < m → b < w.heap.size := fun h => by obtain ⟨q, n, c, h1, _⟩ := HP.out 0 h; exact World.block_lt_of_cell? w _ h1
  have con := Grow_nil N w h0 hs
  go_enter Tryz.func190, Tryz.ntmps190
  go_wp2
  go_loop [3, 11] (fun s i => ∃ k t : Nat, k ≤ m ∧ i = .int .i64 k ∧ s = .int .i64 t ∧ Hid (t = (ls.take k).flatten.length)) (fun _ i => m - (intOf i).toNat)
  case atStart => exact ⟨0, 0, Nat.zero_le _, rfl, rfl, by simp [Hid]⟩
  case round =>
    obtain ⟨k, t, hk, rfl, rfl, HT⟩ := hrel
    by_cases hlt : k < m
    · obtain ⟨q, n, c', hc, hby⟩ := HP.out k hlt
      have ht : (ls.take (k + 1)).flatten.length = t + n := by rw [flat_take ls k (by rw [HM.out]; exact hlt), List.length_append, ← HT.out, hby.at.1]
      have hle := flat_take_le ls (k + 1)
      rw [HN.out, ht] at hle
      have HT2 := Lib.hid ht
      clear ht hby
      have d1 : decide ((t : Int) + (n : Int) < 0) = false := by simp; omega
      go_wp2
      go_round
      case rel => exact ⟨k + 1, t + n, by omega, by go_num, by go_num, HT2.out.symm⟩
      case measure => simp [intOf]; omega
    · have htN : t = N := by rw [HT.out, List.take_of_length_le (by rw [HM.out]; omega), HN.out]
      subst htN
      clear HT
      go_wp2_with fail
      refine con.mono ?_
      rintro e w1 ⟨v1, rfl, hown, hbel⟩
      clear con
      go_wp2
      go_loopw [6, 27] (fun v i wr => ∃ k n : Nat, k ≤ m ∧ i = .int .i64 k ∧ wr.ownsRow w.heap.size 5 1 v n (byV (ls.take k).flatten) ∧ Hid (n = (ls.take k).flatten.length) ∧ Below w.heap.size w wr) (fun _ i _ => m - (intOf i).toNat)
      case atStart => exact ⟨0, 0, Nat.zero_le _, rfl, hown, by simp [Hid], hbel⟩
      case round =>
        obtain ⟨j, n, hj, rfl, hrow, HR, hbw⟩ := hrel
        by_cases hjl : j < m
        · obtain ⟨q, n', c', hc, hby⟩ := HP.out j hjl
          have hc' : wr.cell? ⟨b, j, none⟩ = some (.slice q n' c') := (World.cell?_of_block (hbw.block _ (hb (by omega)))).trans hc
          obtain ⟨h1, h2, h3, h4, h5⟩ := (hby.on hbw).at
          have ht : (ls.take (j + 1)).flatten = (ls.take j).flatten ++ ls.getD j [] := flat_take ls j (by rw [HM.out]; exact hjl)
          have hle := flat_take_le ls (j + 1)
          have htl : (ls.take (j + 1)).flatten.length = n + n' := by rw [ht, List.length_append, ← HR.out, h1]
          rw [htl, HN.out] at hle
          have HT := Lib.hid ht
          have HTL := Lib.hid htl
          have hbs := hbw.size
          clear ht htl hc hby hown hbel h2 h3
          generalize ls.getD j [] = x at *
          go_wp2_with (at_builtin; refine wpList_append_bytes rfl _ _ rfl w.heap.size _ n _ rfl hrow q n' c' x rfl h4 h1 h5 (by omega) hbs ?_; intro v4 w4 hown4 hgrow4)
          go_roundw
          case rel =>
            refine ⟨j + 1, n + n', by omega, by go_num, ?_, HTL.out.symm, hbw.trans ((Below.refl _ _).grown hgrow4 hbs (fun b h => (hrow.lt b h).1))⟩
            rw [HT.out, byV_app]; exact hown4
          case measure => simp [intOf]; omega
        · have hnN : n = t := by rw [HR.out, List.take_of_length_le (by rw [HM.out]; omega), HN.out]
          have hall : ls.take j = ls := List.take_of_length_le (by rw [HM.out]; omega)
          subst hnN
          rw [hall] at hrow
          clear hall HR
          go_wp2
          go_ret
          exact ⟨_, rfl, hrow, hbw⟩
end Go.Proofs.YtedglpfdibamdaaGreatDoor.Url
namespace Go.Proofs.YtedglpfdibamdaaGreatDoor.Org
open Go.RowKit Go.Shelf Url
attribute [local go_sem] Oper.semAt_some
def setRen : Go.Shelf.Ren := ⟨fun | 11 => 156 | 16 => 157 | n => n, fun | 0 => 0 | 3 => 3 | 4 => 4 | 5 => 5 | 9 => 9 | 27 => 207 | 31 => 242 | n => n, fun | n => n⟩
theorem set11 : Go.Proofs.SlLaysV.n11 Tryz.prog setRen := {
  mixed := by kernel_rfl
  f11 := Tryz.func156.trans (congrArg some (by kernel_rfl))
  t0 := Tryz.underlying0, a0 := Tryz.isAgg0, z0 := Tryz.sizeOf0, v0 := Tryz.zeroValue0
  t3 := Tryz.underlying3, a3 := Tryz.isAgg3, z3 := Tryz.sizeOf3, v3 := Tryz.zeroValue3
  t4 := Tryz.underlying4, a4 := Tryz.isAgg4, z4 := Tryz.sizeOf4, v4 := Tryz.zeroValue4
  t5 := Tryz.underlying5, a5 := Tryz.isAgg5, z5 := Tryz.sizeOf5, v5 := Tryz.zeroValue5
  t9 := Tryz.underlying9, a9 := Tryz.isAgg9, z9 := Tryz.sizeOf9, v9 := Tryz.zeroValue9
  t27 := Tryz.underlying207, a27 := Tryz.isAgg207, z27 := Tryz.sizeOf207 }
theorem set16 : Go.Proofs.SlLaysV.n16 Tryz.prog setRen := {
  mixed := by kernel_rfl
  f16 := Tryz.func157.trans (congrArg some (by kernel_rfl))
  t0 := Tryz.underlying0, a0 := Tryz.isAgg0, z0 := Tryz.sizeOf0, v0 := Tryz.zeroValue0
  t4 := Tryz.underlying4, a4 := Tryz.isAgg4, z4 := Tryz.sizeOf4, v4 := Tryz.zeroValue4
  t5 := Tryz.underlying5, a5 := Tryz.isAgg5, z5 := Tryz.sizeOf5, v5 := Tryz.zeroValue5
  t27 := Tryz.underlying207, a27 := Tryz.isAgg207, z27 := Tryz.sizeOf207
  t31 := Tryz.underlying242, a31 := Tryz.isAgg242, z31 := Tryz.sizeOf242, v31 := Tryz.zeroValue242 }
theorem info_set : (Tryz.prog.info? 207).map (fun i => (i.zero, i.size)) = some (some (.agg (Array.replicate 256 (.bool false))), 256) := by kernel_rfl
theorem set_zero : Tryz.zeroCells207 = Array.replicate 256 (.bool false) := by kernel_rfl
def sepC : List UInt8 := [47, 63, 35]
theorem makeSet_any (w : World) : Calls Tryz.prog 156 #[.string ⟨sepC.toArray⟩] w fun e w' => e = .returned (.tuple #[.agg (Lib.setCells sepC), .bool true]) ∧ w' = w.alloc (.cells (Lib.setCells sepC) 207) :=
  Any.bytes_makeASCIISet set11 (zero_of_info info_set).1 (zero_of_info info_set).2 ⟨sepC.toArray⟩ w (by decide) (by
    intro j b hj
    have : b ∈ sepC := List.mem_of_getElem? hj
    simp only [sepC, List.mem_cons, List.not_mem_nil, or_false] at this
    rcases this with rfl | rfl | rfl <;> decide)
theorem has_any (b : Nat) (x : UInt8) (v : Bool) (w : World) (hc : w.cell? ⟨b, x.toNat, none⟩ = some (.bool v)) :
    Calls Tryz.prog 157 #[.pointer (some ⟨b, 0, none⟩), .int .u8 x.toNat] w fun e w' => e = .returned (.bool v) ∧ w' = w :=
  Any.bytes_asciiSet_contains set16 b x v w hc
set_option maxHeartbeats 1000000 in
theorem shouldUse_any (n : Int) (w : World) :
    Calls Tryz.prog 155 #[.int .i64 n] w fun e w' => e = .returned (.bool (decide (8 < n))) ∧ w' = w := by
  go_enter Tryz.func155, Tryz.ntmps155
  go_wp2
  go_ret
  exact ⟨rfl, rfl⟩
theorem run_indexSep (x : UInt8) (w : World) : (callFunc 153 #[.string ⟨#[47, 63, 35]⟩, .int .u8 (x.toNat : Int)]).run Tryz.prog w = .ok (.value (.int .i64 (Lib.indexByte sepC x))) w := by
  rw [run_callFunc_extern Tryz.func153 (by kernel_rfl) (by kernel_rfl) (by kernel_rfl) (e := Extern.BytealgIndexByte.indexByte) (by kernel_rfl), Lib.run_indexByteString]
  simp [Result.andThen, sepC]
theorem sep_in (x : UInt8) (h : x ∈ sepC) : decide (0 ≤ Lib.indexByte sepC x) = true ∧ x.toNat < 128 := by
  simp only [sepC, List.mem_cons, List.not_mem_nil, or_false] at h
  rcases h with rfl | rfl | rfl <;> decide
theorem sep_out (x : UInt8) (h : x ∉ sepC) : decide (0 ≤ Lib.indexByte sepC x) = false := by
  rw [← Lib.contains_iff_indexByte]
  simpa using h
def sepV (k n : Nat) : Int := if k < n then (k : Int) else -1
set_option maxRecDepth 100000 in
set_option maxHeartbeats 4000000 in
theorem IndexAny_one (q : Option Addr) (c k : Nat) (l : List UInt8) (w : World) (h : By w (.slice q 1 c) l) (hno : ∀ j, j < k → (l.getD j 0).toNat < 128 ∧ l.getD j 0 ∉ sepC) (hk : k = 1 ∨ (k < 1 ∧ l.getD k 0 ∈ sepC)) :
    Calls Tryz.prog 116 #[.slice q 1 c, .string ⟨#[47, 63, 35]⟩] w fun e w' => e = .returned (.int .i64 (sepV k 1)) ∧ Below w.heap.size w w' := by
  obtain ⟨h1, h2, h3, h4, h5⟩ := h.at
  obtain ⟨b, o, rfl, hc⟩ := h5.at (by omega)
  have hc0 := hc 0 (by omega)
  rw [numsL_getD _ _ (by omega), Nat.add_zero] at hc0
  obtain ⟨x, hx⟩ : ∃ x, l.getD 0 0 = x := ⟨_, rfl⟩
  rw [hx] at hc0
  have hrun := run_indexSep x
  rcases hk with rfl | ⟨hk0, hk⟩
  · obtain ⟨h128, hnot⟩ := hno 0 (by omega)
    rw [hx] at h128 hnot
    have hix := sep_out x hnot
    have d1 : decide ((128 : Int) ≤ (x.toNat : Int)) = false := by simp; omega
    clear hno hnot hc h5 h h1 hx
    generalize Lib.indexByte sepC x = ix at *
    go_enter Tryz.func116, Tryz.ntmps116
    go_wp2
    go_ret
    exact ⟨rfl, Below.refl _ _⟩
  · obtain rfl : k = 0 := by omega
    rw [hx] at hk
    obtain ⟨hix, h128⟩ := sep_in x hk
    have d1 : decide ((128 : Int) ≤ (x.toNat : Int)) = false := by simp; omega
    clear hno hk hc h5 h h1 hx
    generalize Lib.indexByte sepC x = ix at *
    go_enter Tryz.func116, Tryz.ntmps116
    go_wp2
    go_ret
    exact ⟨rfl, Below.refl _ _⟩
set_option maxRecDepth 100000 in
set_option maxHeartbeats 8000000 in
theorem IndexAny_short (q : Option Addr) (n c k : Nat) (l : List UInt8) (w : World) (h : By w (.slice q n c) l) (hn1 : n ≠ 1) (hn8 : n ≤ 8) (hno : ∀ j, j < k → (l.getD j 0).toNat < 128 ∧ l.getD j 0 ∉ sepC) (hk : k = n ∨ (k < n ∧ l.getD k 0 ∈ sepC)) :
    Calls Tryz.prog 116 #[.slice q n c, .string ⟨#[47, 63, 35]⟩] w fun e w' => e = .returned (.int .i64 (sepV k n)) ∧ Below w.heap.size w w' := by
  obtain ⟨h1, h2, h3, h4, h5⟩ := h.at
  have H1 := Lib.hid h1
  have H5 := Lib.hid h5
  have HN := Lib.hid hno
  have HK := Lib.hid hk
  have hkn : k ≤ n := by rcases hk with h | h <;> omega
  have hne : ((n : Int) == 1) = false := by simp; omega
  have h8 : decide ((8 : Int) < (n : Int)) = false := by simp; omega
  have con := shouldUse_any (n : Int) w
  rw [h8] at con
  clear h1 h4 h5 h hno hk hn1 h8
  go_enter Tryz.func116, Tryz.ntmps116
  go_wp2_with fail
  refine con.mono ?_
  rintro e w' ⟨rfl, rfl⟩
  clear con
  go_wp2
  go_loop [12] (fun i => ∃ j : Nat, j ≤ k ∧ i = .int .i64 j) (fun i => n - (intOf i).toNat)
  case atStart => exact ⟨0, Nat.zero_le _, rfl⟩
  case round =>
    obtain ⟨j, hj, rfl⟩ := hrel
    have hwr : wrap64 ((j : Int) + 1) = (j : Int) + 1 := by unfold wrap64; omega
    by_cases hjn : j < n
    · obtain ⟨b, o, rfl, hc⟩ := H5.out.at (by omega)
      have hc0 := hc j hjn
      have e1 := H1.out
      rw [numsL_getD _ _ (by omega)] at hc0
      obtain ⟨x, hx⟩ : ∃ x, l.getD j 0 = x := ⟨_, rfl⟩
      rw [hx] at hc0
      have hrun := run_indexSep x
      by_cases hjk : j < k
      · obtain ⟨h128, hnot⟩ := HN.out j hjk
        rw [hx] at h128 hnot
        have hix := sep_out x hnot
        have d1 : decide ((x.toNat : Int) < (128 : Int)) = true := by simp; omega
        clear hnot hc hx e1
        generalize Lib.indexByte sepC x = ix at *
        go_wp2
        go_round
        case rel => exact ⟨j + 1, by omega, by go_num⟩
        case measure => simp [intOf]; omega
      · have hjk' : j = k := by omega
        have hin : x ∈ sepC := by rcases HK.out with h | ⟨_, h⟩
                                  · omega
                                  · rw [← hx, hjk']; exact h
        obtain ⟨hix, h128⟩ := sep_in x hin
        have d1 : decide ((x.toNat : Int) < (128 : Int)) = true := by simp; omega
        have HV := Lib.hid (show sepV k n = (j : Int) by unfold sepV; rw [if_pos (by omega), hjk'])
        clear hin hc hx e1 hjk' hjk
        generalize Lib.indexByte sepC x = ix at *
        go_wp2
        go_ret
        exact ⟨(by rw [HV.out]; try rfl), Below.refl _ _⟩
    · have HV := Lib.hid (show sepV k n = (-1 : Int) by unfold sepV; rw [if_neg (by omega)])
      have hd : decide ((j : Int) < (n : Int)) = false := by simp; omega
      go_wp2
      go_ret
      exact ⟨(by rw [HV.out]; try rfl), Below.refl _ _⟩
set_option maxRecDepth 1000000 in
set_option maxHeartbeats 8000000 in
theorem IndexAny_long (q : Option Addr) (n c k : Nat) (l : List UInt8) (w : World) (h : By w (.slice q n c) l) (hn8 : 8 < n) (hn47 : n ≤ 140737488355328) (hno : ∀ j, j < k → (l.getD j 0).toNat < 128 ∧ l.getD j 0 ∉ sepC) (hk : k = n ∨ (k < n ∧ l.getD k 0 ∈ sepC)) :
    Calls Tryz.prog 116 #[.slice q n c, .string ⟨#[47, 63, 35]⟩] w fun e w' => e = .returned (.int .i64 (sepV k n)) ∧ Below w.heap.size w w' := by
  obtain ⟨hS1, hS2, hS3⟩ : (Lib.setCells sepC).size = 256 ∧ (Lib.setCells sepC).all (·.oneCell') = true ∧ ∀ x : UInt8, (Lib.setCells sepC)[x.toNat]? = some (.bool (sepC.contains x)) := ⟨Lib.setCells_size _, Lib.setCells_one _, Lib.setCells_at sepC⟩
  have conM := fun w => makeSet_any w
  obtain ⟨S, hS⟩ : ∃ S, Lib.setCells sepC = S := ⟨_, rfl⟩
  rw [hS] at hS1 hS2 hS3 conM
  have hsc : (storeCells ⟨w.heap.size + 1, 0, none⟩ S.toList 0).run Tryz.prog ((w.alloc (.cells S 207)).alloc (.cells (Array.replicate 256 (.bool false)) 207)) = .ok () ((w.alloc (.cells S 207)).alloc (.cells S 207)) := by
    have := run_storeCells_new (P := Tryz.prog) (w.alloc (.cells S 207)) 207 (Array.replicate 256 (.bool false)) S (by rw [hS1]; exact (zero_of_info info_set).2) (by rw [hS1, Array.size_replicate]) hS2
    simpa using this
  obtain ⟨W, hW⟩ : ∃ W, (w.alloc (.cells S 207)).alloc (.cells S 207) = W := ⟨_, rfl⟩
  have hB : Below w.heap.size w W := by rw [← hW]; exact ((Below.refl _ w).alloc (Nat.le_refl _) _).alloc (by simp) _
  have hcell : ∀ x : UInt8, W.cell? ⟨w.heap.size + 1, x.toNat, none⟩ = some (.bool (sepC.contains x)) := fun x => by
    rw [← hW, World.cell?_alloc_at _ _ _ _ (by simp), hS3]
  obtain ⟨h1, h2, h3, h4, h5⟩ := (h.on hB).at
  have H1 := Lib.hid h1
  have H5 := Lib.hid h5
  have HN := Lib.hid hno
  have HK := Lib.hid hk
  have HC := Lib.hid hcell
  have hkn : k ≤ n := by rcases hk with h | h <;> omega
  have hne : ((n : Int) == 1) = false := by simp; omega
  have h8 : decide ((8 : Int) < (n : Int)) = true := by simp; omega
  have con := shouldUse_any (n : Int) w
  rw [h8] at con
  have conM := conM w
  rw [hW] at hsc
  clear h1 h4 h5 h hno hk h8 hcell hW hS hS3 hS2
  go_enter Tryz.func116, Tryz.ntmps116
  go_wp2_with fail
  refine con.mono ?_
  rintro e w' ⟨rfl, rfl⟩
  clear con
  go_wp2_with fail
  refine conM.mono ?_
  rintro e w2 ⟨rfl, rfl⟩
  clear conM
  go_wp2
  rw [set_zero, hsc]
  simp only [Result.andThen]
  rw [Oper.upon_skip]
  go_wp2
  go_loop [62] (fun i => ∃ j : Nat, j ≤ k ∧ i = .int .i64 j) (fun i => n - (intOf i).toNat)
  case atStart => exact ⟨0, Nat.zero_le _, rfl⟩
  case round =>
    obtain ⟨j, hj, rfl⟩ := hrel
    have hwr : wrap64 ((j : Int) + 1) = (j : Int) + 1 := by unfold wrap64; omega
    by_cases hjn : j < n
    · obtain ⟨b, o, rfl, hc⟩ := H5.out.at (by omega)
      have hc0 := hc j hjn
      have e1 := H1.out
      rw [numsL_getD _ _ (by omega)] at hc0
      obtain ⟨x, hx⟩ : ∃ x, l.getD j 0 = x := ⟨_, rfl⟩
      rw [hx] at hc0
      have hcx := HC.out x
      by_cases hjk : j < k
      · obtain ⟨_, hnot⟩ := HN.out j hjk
        rw [hx] at hnot
        rw [show sepC.contains x = false by simpa using hnot] at hcx
        have con := has_any _ x _ _ hcx
        clear hnot hc hx e1 hcx
        go_wp2_with fail
        refine con.mono ?_
        rintro e w' ⟨rfl, rfl⟩
        clear con
        go_wp2
        go_round
        case rel => exact ⟨j + 1, by omega, by go_num⟩
        case measure => simp [intOf]; omega
      · have hjk' : j = k := by omega
        have hin : x ∈ sepC := by rcases HK.out with h | ⟨_, h⟩
                                  · omega
                                  · rw [← hx, hjk']; exact h
        rw [show sepC.contains x = true by simpa using hin] at hcx
        have con := has_any _ x _ _ hcx
        have HV := Lib.hid (show sepV k n = (j : Int) by unfold sepV; rw [if_pos (by omega), hjk'])
        clear hin hc hx e1 hjk' hjk hcx
        go_wp2_with fail
        refine con.mono ?_
        rintro e w' ⟨rfl, rfl⟩
        clear con
        go_wp2
        go_ret
        exact ⟨(by rw [HV.out]; try rfl), hB⟩
    · have HV := Lib.hid (show sepV k n = (-1 : Int) by unfold sepV; rw [if_neg (by omega)])
      have hd : decide ((j : Int) < (n : Int)) = false := by simp; omega
      go_wp2
      go_ret
      exact ⟨(by rw [HV.out]; try rfl), hB⟩
theorem ContainsAny_sep (q : Option Addr) (n c k : Nat) (l : List UInt8) (w : World) (h : By w (.slice q n c) l) (hn47 : n ≤ 140737488355328) (hno : ∀ j, j < k → (l.getD j 0).toNat < 128 ∧ l.getD j 0 ∉ sepC) (hk : k = n ∨ (k < n ∧ l.getD k 0 ∈ sepC)) :
    Calls Tryz.prog 77 #[.slice q n c, .string ⟨#[47, 63, 35]⟩] w fun e w' => e = .returned (.bool (decide (k < n))) ∧ Below w.heap.size w w' := by
  have con : Calls Tryz.prog 116 #[.slice q n c, .string ⟨#[47, 63, 35]⟩] w fun e w' => e = .returned (.int .i64 (sepV k n)) ∧ Below w.heap.size w w' := by
    by_cases h1 : n = 1
    · subst h1; exact IndexAny_one q c k l w h hno hk
    · by_cases h8 : n ≤ 8
      · exact IndexAny_short q n c k l w h h1 h8 hno hk
      · exact IndexAny_long q n c k l w h (by omega) hn47 hno hk
  have HV := Lib.hid (show decide (k < n) = decide (0 ≤ sepV k n) by
    unfold sepV
    by_cases hkn : k < n
    · rw [if_pos hkn]; simp [hkn]
    · rw [if_neg hkn]; simp [hkn])
  clear h hno hk
  generalize sepV k n = v at *
  go_enter Tryz.func77, Tryz.ntmps77
  go_wp2_with fail
  refine con.mono ?_
  rintro e w' ⟨rfl, hb⟩
  go_wp2
  go_ret
  exact ⟨(by rw [HV.out]; try rfl), hb⟩
end Go.Proofs.YtedglpfdibamdaaGreatDoor.Org
namespace Go.Proofs.YtedglpfdibamdaaGreatDoor.Url
open Go.RowKit Go.Shelf
theorem low_own (l : List UInt8) (s : List UInt8) (hs : Ref.lowL s = s) : sameLow l s = decide (Ref.lowL l = s) := by
  unfold sameLow
  show decide (Ref.lowL l = Ref.lowL s) = _
  rw [hs]
set_option maxRecDepth 100000 in
set_option maxHeartbeats 4000000 in
theorem Own_any (q : Option Addr) (n c : Nat) (l : List UInt8) (w : World) (hl : l.length = n) (hn : n ≤ 140737488355328) (h : Lib.BytesIn w q n (Lib.numsL l)) :
    Calls Tryz.prog 29 #[.slice q n c] w fun e w' => e = .returned (.int .i64 (ownP (Ref.lowL l))) ∧ Below w.heap.size w w' := by
  have kc := fun (w : World) (C : Array Value) (n c : Nat) => Lib.run_convert_bytes_const (P := Tryz.prog) w 22 5 C n c Tryz.underlying22 Tryz.underlying5
  have b1 := bytes_lit (w := w) #[.int .u8 104, .int .u8 116, .int .u8 116, .int .u8 112] httpS (4, 5) rfl
  have hB1 := (Below.refl _ w).alloc (Nat.le_refl _) (.cells #[.int .u8 104, .int .u8 116, .int .u8 116, .int .u8 112] 5 (4, 5))
  have h1 := bytes_on h hB1
  have con1 := cutSame_any q (some ⟨w.heap.size, 0, none⟩) n c 4 4 l httpS _ hl rfl hn (by omega) h1 b1
  rw [low_own l httpS (by decide)] at con1
  have b2 := fun (w : World) => bytes_lit (w := w) #[.int .u8 104, .int .u8 116, .int .u8 116, .int .u8 112, .int .u8 115] httpsS (5, 6) rfl
  have hB2 := fun (w : World) => (Below.refl _ w).alloc (Nat.le_refl _) (.cells #[.int .u8 104, .int .u8 116, .int .u8 116, .int .u8 112, .int .u8 115] 5 (5, 6))
  by_cases e1 : Ref.lowL l = httpS
  · have H := Lib.hid (show (ownP (Ref.lowL l) : Int) = 80 by rw [e1]; rfl)
    rw [decide_eq_true e1] at con1
    clear b1 h1 b2 hB2 e1 h hl
    go_enter Tryz.func29, Tryz.ntmps29
    go_wp2_with fail
    refine con1.mono ?_
    rintro e w' ⟨rfl, rfl⟩
    clear con1
    go_wp2
    go_ret
    exact ⟨(by rw [H.out]; try rfl), hB1⟩
  · rw [decide_eq_false e1] at con1
    clear b1
    go_enter Tryz.func29, Tryz.ntmps29
    go_wp2_with fail
    refine con1.mono ?_
    rintro e W1 ⟨rfl, hW1⟩
    rw [hW1] at hB1 h1
    clear con1 hW1 h
    have h2 := bytes_on h1 (hB2 W1)
    have con2 := cutSame_any q (some ⟨W1.heap.size, 0, none⟩) n c 5 5 l httpsS _ hl rfl hn (by omega) h2 (b2 W1)
    rw [low_own l httpsS (by decide)] at con2
    have hB := hB1.trans ((hB2 W1).mono hB1.size)
    clear h2 b2 hB2 h1 hl hB1
    by_cases e2 : Ref.lowL l = httpsS
    · have H := Lib.hid (show (ownP (Ref.lowL l) : Int) = 443 by rw [e2]; rfl)
      rw [decide_eq_true e2] at con2
      clear e1 e2
      go_wp2_with fail
      refine con2.mono ?_
      rintro e w' ⟨rfl, rfl⟩
      clear con2
      go_wp2
      go_ret
      exact ⟨(by rw [H.out]; try rfl), hB⟩
    · have H := Lib.hid (show (ownP (Ref.lowL l) : Int) = 0 by unfold ownP; rw [if_neg e1, if_neg e2]; rfl)
      rw [decide_eq_false e2] at con2
      clear e1 e2
      go_wp2_with fail
      refine con2.mono ?_
      rintro e w' ⟨rfl, rfl⟩
      clear con2
      go_wp2
      go_ret
      exact ⟨(by rw [H.out]; try rfl), hB⟩
def sepS : List UInt8 := [58, 47, 47]
theorem nums_range (l : List UInt8) : ∀ x ∈ Lib.numsL l, 0 ≤ x ∧ x < 256 := fun x hx => by
  unfold Lib.numsL at hx
  obtain ⟨b, _, rfl⟩ := List.mem_map.1 hx
  have := u8_lt b
  omega
theorem By.take {w : World} {q : Option Addr} {n c k : Nat} {l : List UInt8} (h : By w (.slice q n c) l) (hk : k ≤ n) : By w (.slice q k c) (l.take k) := by
  obtain ⟨h1, h2, h3, h4, h5⟩ := h.at
  exact By.of (by rw [List.length_take]; omega) (by omega) h3 (fun hq => (h4 hq).2) (bytes_take h5 h1 hk)
theorem By.drop {w : World} {q : Option Addr} {n c k : Nat} {l : List UInt8} (h : By w (.slice q n c) l) (hk : k ≤ n) : By w (.slice (subA q c k) (n - k) (c - k)) (l.drop k) := by
  obtain ⟨h1, _⟩ := h.at
  have := h.sub hk (Nat.le_refl n)
  rw [← h1, sub_from, h1] at this
  exact this
theorem Cut_any (q qs : Option Addr) (n c cs : Nat) (l : List UInt8) (w : World) (h : By w (.slice q n c) l) (hn : n < 4294967281) (hG : Gl w) (hs : Lib.BytesIn w qs 3 (Lib.numsL sepS)) :
    Calls Tryz.prog 69 #[.slice q n c, .slice qs 3 cs] w fun e w' => e = .returned (Lib.cutV q n c 3 (sepI l)) ∧ ∃ m, w' = w.drewN m := by
  obtain ⟨⟨m, hm⟩, _⟩ := hG
  obtain ⟨h1, h2, h3, h4, h5⟩ := h.at
  have con := Tryz.bytes_Cut_all q qs n c 3 cs (Lib.numsL l) (Lib.numsL sepS) m w (by rw [Lib.numsL_length, h1]) rfl (nums_range l) (nums_range sepS) h5 hs (fun hq => (h4 hq).2) h2 hn (by omega) hm
  rw [bytesOf_numsL, bytesOf_numsL] at con
  exact con
theorem cut_some {q : Option Addr} {n c k : Nat} {l : List UInt8} (h : sepI l = (k : Int)) : Lib.cutV q n c 3 (sepI l) = .tuple #[.slice q k c, .slice (subA q c (k + 3)) (n - (k + 3)) (c - (k + 3)), .bool true] := by
  unfold Lib.cutV
  rw [h, if_pos (by omega), Int.toNat_natCast]
  rfl
theorem cut_none {q : Option Addr} {n c : Nat} {l : List UInt8} (h : sepI l = -1) : Lib.cutV q n c 3 (sepI l) = .tuple #[.slice q n c, .slice none 0 0, .bool false] := by
  unfold Lib.cutV
  rw [h, if_neg (by decide)]
end Go.Proofs.YtedglpfdibamdaaGreatDoor.Url
namespace Go.Proofs.YtedglpfdibamdaaGreatDoor.Hdr
open Go.RowKit Go.Shelf Url
theorem box_cell (w : World) (cs : Array Value) (t : TypeId) (i : Nat) (x : Value) (h : cs[i]? = some x) : (w.alloc (.cells cs t)).cell? ⟨w.heap.size, i, none⟩ = some x := by
  have hn : (w.alloc (.cells cs t)).heap[w.heap.size]? = some (.cells cs t) := World.alloc_heap_new w _
  simp only [World.cell?, hn]
  exact h
theorem cell_on {w w' : World} {a : Addr} {x : Value} (h : w.cell? a = some x) (hk : Below w.heap.size w w') : w'.cell? a = some x := (World.cell?_of_block (hk.block _ (World.block_lt_of_cell? w _ h))).trans h
end Go.Proofs.YtedglpfdibamdaaGreatDoor.Hdr
namespace Go.Proofs.YtedglpfdibamdaaGreatDoor.Hdr
open Go.RowKit Go.Shelf Url
attribute [local go_sem] Oper.semAt_some
end Go.Proofs.YtedglpfdibamdaaGreatDoor.Hdr
namespace Go.Proofs.YtedglpfdibamdaaGreatDoor.Host
open Go.RowKit Go.Shelf
def canL (l : List UInt8) : List UInt8 := if parseE l = 0 then Ref.lowL l else []
def CanOut (l : List UInt8) (w : World) (e : Ending) (w' : World) : Prop :=
  ∃ v, e = .returned (.tuple #[v, .int .i64 (parseE l)]) ∧ w'.ownsRow w.heap.size 5 1 v (canL l).length ((Lib.numsL (canL l)).map (Value.int .u8)) ∧ Below w.heap.size w w'
theorem can_err {l : List UInt8} {n : Int} {w w' : World} (h : parseE l = n) (hn : n ≠ 0) (hb : Below w.heap.size w w') : CanOut l w (.returned (.tuple #[.slice none 0 0, .int .i64 n])) w' := by
  subst h
  have hc : canL l = [] := by unfold canL; rw [if_neg hn]
  exact ⟨_, rfl, by rw [hc]; exact World.ownsRow_nil _ _ _ _, hb⟩
theorem can_ok {l : List UInt8} {n : Nat} {v : Value} {w w' : World} (h : parseE l = 0) (hl : l.length = n) (hr : w'.ownsRow w.heap.size 5 1 v n ((Lib.numsL (lowL l)).map (Value.int .u8))) (hb : Below w.heap.size w w') : CanOut l w (.returned (.tuple #[v, .int .i64 0])) w' := by
  have hc : canL l = lowL l := by unfold canL; rw [if_pos h]; rfl
  exact ⟨_, by rw [h], by rw [hc, lowL_length, hl]; exact hr, hb⟩
set_option maxRecDepth 100000 in
set_option maxHeartbeats 4000000 in
theorem Parse_any (q : Option Addr) (n c : Nat) (l : List UInt8) (w : World) (hl : l.length = n) (hn : n ≤ 140737488355328) (h : Lib.BytesIn w q n (Lib.numsL l)) :
    Calls Tryz.prog 102 #[.slice q n c] w fun e w' => CanOut l w e w' := by
  by_cases hbig : 253 < n
  · have d1 : decide ((253 : Int) < (n : Int)) = true := by simp; omega
    have H := Lib.hid (Ref.parse_big l (by omega))
    clear h hl
    go_enter Tryz.func102, Tryz.ntmps102
    go_wp2
    go_ret2
    exact can_err H.out (by decide) (Below.refl _ _)
  · have d1 : decide ((253 : Int) < (n : Int)) = false := by simp; omega
    have con := isHost_any q n c l w hl (by omega) h
    have PH := Lib.hid (Ref.parse_host l (by omega))
    have PN := Lib.hid (Ref.parse_none l (by omega))
    have HL := Lib.hid hl
    cases hb : hostB (Ref.splitL 46 l) with
    | false =>
      have H := Lib.hid (PN.out hb)
      rw [hb] at con
      clear hb PH PN h hl
      go_enter Tryz.func102, Tryz.ntmps102
      go_wp2_with fail
      refine con.mono ?_
      rintro e w2 ⟨rfl, hb2⟩
      clear con
      go_wp2
      go_ret2
      exact can_err H.out (by decide) hb2
    | true =>
      have H := Lib.hid (PH.out hb)
      rw [hb] at con
      clear hb PH PN hl
      go_enter Tryz.func102, Tryz.ntmps102
      go_wp2_with fail
      refine con.mono ?_
      rintro e w2 ⟨rfl, hb2⟩
      have con2 := Lower_any q n c l w2 HL.out hn (bytes_keep h (Keep.of_below hb2) (fun a h1 h2 => bytes_lt h a h1 h2))
      clear con h
      go_wp2_with fail
      refine con2.mono ?_
      rintro e w3 ⟨v3, rfl, hrow, hb3⟩
      have hrow' := row_base hrow hb2.size
      have hb' := hb2.trans (hb3.mono hb2.size)
      clear con2 hrow
      go_wp2
      go_ret2
      exact can_ok H.out HL.out hrow' hb'
end Go.Proofs.YtedglpfdibamdaaGreatDoor.Host
namespace Go.Proofs.YtedglpfdibamdaaGreatDoor.Hdr
open Go Go.RowKit Go.Shelf Url
set_option linter.unusedVariables false
def RowC (W : World) (v : Value) (l : List UInt8) : Prop :=
  ∃ g c, v = .slice (some ⟨g, 0, none⟩) l.length c ∧ l.length ≤ c ∧ c ≤ maxLen ∧ g < W.heap.size ∧ ∀ j, j < l.length → W.cell? ⟨g, j, none⟩ = some (.int .u8 ((l.getD j 0).toNat : Int)) ∧ W.frozen? ⟨g, j, none⟩ = false
theorem RowC.by {W : World} {v : Value} {l : List UInt8} (h : RowC W v l) : By W v l := by
  obtain ⟨g, c, rfl, h1, h2, _, h4⟩ := h
  refine By.of rfl h1 h2 (fun h => by cases h) fun _ => ⟨g, 0, rfl, fun i hi => ?_⟩
  rw [numsL_getD _ i hi, Nat.zero_add]
  exact (h4 i hi).1
theorem RowC.form {W : World} {v : Value} {l : List UInt8} (h : RowC W v l) : ∃ q c, v = .slice q l.length c := by
  obtain ⟨g, c, rfl, _⟩ := h
  exact ⟨_, _, rfl⟩
theorem RowC.lt {W : World} {v : Value} {l : List UInt8} (h : RowC W v l) : ∀ b, v.ownBlock = some b → b < W.heap.size := by
  obtain ⟨g, c, rfl, _, _, h3, _⟩ := h
  intro b hb
  cases hb
  exact h3
theorem RowC.keep {S : Nat → Prop} {W W' : World} {v : Value} {l : List UInt8} (h : RowC W v l) (hk : Keep S W W') (hS : ∀ b, v.ownBlock = some b → S b) : RowC W' v l := by
  obtain ⟨g, c, rfl, h1, h2, h3, h4⟩ := h
  have hb := hk.block g h3 (hS g rfl)
  exact ⟨g, c, rfl, h1, h2, Nat.lt_of_lt_of_le h3 hk.size, fun j hj => ⟨(World.cell?_of_block hb).trans (h4 j hj).1, (World.frozen?_of_block hb).trans (h4 j hj).2⟩⟩
theorem RowC.below {W W' : World} {v : Value} {l : List UInt8} (h : RowC W v l) (hb : Below W.heap.size W W') : RowC W' v l := h.keep (Keep.of_below hb) h.lt
theorem conv_rowC (w : World) (l : List UInt8) (hl : l.length ≤ 1099511627776) : ∃ c W, (convert 9 22 (.string ⟨l.toArray⟩)).run Tryz.prog w = .ok (.slice (some ⟨w.heap.size, 0, none⟩) l.length c) W ∧
    RowC W (.slice (some ⟨w.heap.size, 0, none⟩) l.length c) l ∧ Below w.heap.size w W ∧ W.heap.size = w.heap.size + 1 := by
  refine ⟨_, _, Lib.run_convert_string_bytes w 9 22 5 ⟨l.toArray⟩ Tryz.underlying9 Tryz.underlying22 Tryz.underlying5, ?_, ⟨rfl, rfl, rfl, by rw [Lib.bytesWorld_size]; omega, fun k hk => Lib.bytesWorld_at_old w _ _ k hk⟩, Lib.bytesWorld_size w _ _⟩
  have hg : l.length ≤ grownCap w (⟨l.toArray⟩ : ByteArray).size 0 5 := grownCap_ge w _ _ _
  refine ⟨w.heap.size, _, rfl, hg, grownCap_le_maxLen w _ 0 _ (by unfold maxLen; show l.length ≤ _; omega), by rw [Lib.bytesWorld_size]; omega, fun j hj => ⟨Lib.bytesWorld_cell w _ ⟨l.toArray⟩ j hj, ?_⟩⟩
  have hz : (Lib.bytesCells w 5 ⟨l.toArray⟩).size = l.length + (grownCap w (⟨l.toArray⟩ : ByteArray).size 0 5 - l.length) := by
    unfold Lib.bytesCells
    simp [Array.size_append]
    rfl
  simp only [World.frozen?, Lib.bytesWorld_at_new]
  simp only [decide_eq_false_iff_not, Bool.and_eq_false_iff]
  left
  omega
def TxtArg (x : List UInt8) (args : Array Value) (G : Nat → Prop) (W : World) : Prop :=
  ∃ v, args = #[v] ∧ RowC W v x ∧ G = fun b => v.ownBlock = some b
end Go.Proofs.YtedglpfdibamdaaGreatDoor.Hdr
namespace Go.Proofs.YtedglpfdibamdaaGreatDoor.Url
open Go.RowKit Go.Shelf
theorem run_append_by (ty : TypeId) (base : Nat) (v : Value) (n : Nat) (xs : List Value) (w : World) (hown : w.ownsRow base 5 1 v n xs) (vx : Value) (bs : List UInt8) (hb : By w vx bs) (h47 : n + bs.length ≤ 140737488355328) (hbase : base ≤ w.heap.size) :
    ∃ v' w', (Builtin.append_ #[22, 22] ty #[v, vx]).run Tryz.prog w = .ok v' w' ∧ w'.ownsRow base 5 1 v' (n + bs.length) (xs ++ byV bs) ∧ w.grownBy w' v.ownBlock := by
  obtain ⟨i0, hi0, hz0, hz1, hz2⟩ := info_parts info_u8
  obtain ⟨q, c, rfl, h1, h2, h3, h4⟩ := hb
  cases q with
  | none =>
    have hc : c = 0 := h3 rfl
    subst hc
    obtain rfl : bs = [] := List.eq_nil_of_length_eq_zero (by omega)
    exact ⟨v, w, run_append_owned_none (P := Tryz.prog) (w := w) base 22 ty 5 i0 1 Tryz.underlying22 hi0 v n xs hown, by simpa [byV, Lib.numsL] using hown, ⟨rfl, rfl, rfl, Nat.le_refl _, fun _ _ _ => rfl⟩⟩
  | some ad =>
    have hlen : (byV bs).length = bs.length * 1 := by simp [byV, Lib.numsL]
    obtain ⟨v', w', hr, h5, h6, _, _⟩ := run_append_own_at (P := Tryz.prog) w base 22 ty 5 i0 (.int .u8 0) 1 1 Tryz.underlying22 hi0 hz0 hz1 hz2 rfl (by decide) v n xs hown ad bs.length c (byV bs) hlen (fun j u hj => by
      rcases Nat.lt_or_ge j bs.length with h' | h'
      · obtain ⟨b, o, he, hcc⟩ := h4.at (by omega)
        cases he
        have hj' : j < (Lib.numsL bs).length := by rw [Lib.numsL_length]; omega
        unfold byV at hj
        rw [Go.WideShapes.add_plain, hcc j h']
        rw [List.getElem?_map, List.getElem?_eq_getElem hj'] at hj
        simp only [Option.map_some, Option.some.injEq] at hj
        rw [← hj, List.getD, List.getElem?_eq_getElem hj']
        rfl
      · rw [List.getElem?_eq_none (by omega)] at hj
        cases hj) (by simp [byV, Lib.numsL, Value.oneCell']) (by unfold maxLen; omega) (by omega) hbase
    exact ⟨v', w', hr, h5, h6⟩
theorem wp_append_by {o : Oper} {a : Act} {w : World} {K : Act → World → Prop} {Q : Exit → Act → World → Prop} (s x : Operand)
    (ho : o.op = .call { callee := .builtin .append, args := #[s, x], argTypes := #[22, 22] })
    (base : Nat) (v : Value) (n : Nat) (xs : List Value) (hs : a.eval s = v) (hown : w.ownsRow base 5 1 v n xs) (vx : Value) (bs : List UInt8) (hx : a.eval x = vx) (hb : By w vx bs) (h47 : n + bs.length ≤ 140737488355328) (hbase : base ≤ w.heap.size)
    (h : ∀ v' w', w'.ownsRow base 5 1 v' (n + bs.length) (xs ++ byV bs) → w.grownBy w' v.ownBlock → K (a.put o.dst v') w') : o.wp Tryz.prog a w K Q := by
  obtain ⟨v', w', hr, h1, h2⟩ := run_append_by o.type base v n xs w hown vx bs hb h47 hbase
  exact Lib.wp_append_run (P := Tryz.prog) w s x 22 22 ho v vx hs hx v' w' hr (h v' w' h1 h2)
theorem by_lit (w : World) (cs : Array Value) (l : List UInt8) (fr : Nat × Nat) (n : Nat) (h : cs.toList = byV l) (hn : l.length = n) (hm : n ≤ maxLen) : By (w.alloc (.cells cs 5 fr)) (.slice (some ⟨w.heap.size, 0, none⟩) n n) l :=
  By.of hn (Nat.le_refl _) hm (fun h => by cases h) (by rw [← hn]; exact bytes_lit cs l fr h)
theorem grown_below {base n : Nat} {v : Value} {xs : List Value} {w w' : World} (hown : w.ownsRow base 5 1 v n xs) (hg : w.grownBy w' v.ownBlock) (hb : base ≤ w.heap.size) : Below base w w' :=
  (Below.refl _ _).grown hg hb (fun b h => (hown.lt b h).1)
theorem box_cell (w : World) (cs : Array Value) (t : TypeId) (i : Nat) (x : Value) (h : cs[i]? = some x) : (w.alloc (.cells cs t)).cell? ⟨w.heap.size, i, none⟩ = some x := by
  have hn : (w.alloc (.cells cs t)).heap[w.heap.size]? = some (.cells cs t) := World.alloc_heap_new w _
  simp only [World.cell?, hn]
  exact h
theorem cell_on {w w' : World} {a : Addr} {x : Value} (h : w.cell? a = some x) (hk : Below w.heap.size w w') : w'.cell? a = some x := (World.cell?_of_block (hk.block _ (World.block_lt_of_cell? w _ h))).trans h
theorem cell_below {B : Nat} {w w' : World} {a : Addr} {x : Value} (h : w.cell? a = some x) (hk : Below B w w') (hB : a.block < B) : w'.cell? a = some x := (World.cell?_of_block (hk.block _ hB)).trans h
end Go.Proofs.YtedglpfdibamdaaGreatDoor.Url
