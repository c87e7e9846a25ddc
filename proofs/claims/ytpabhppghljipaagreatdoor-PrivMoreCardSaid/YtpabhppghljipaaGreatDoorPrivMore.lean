/- PrivMore: the law returns true at whatever input, and writes nothing that was there: its tied card. Conditions: none. -/
import Derived.Test.YtpabhppghljipaaGreatDoorBaseF
import Derived.Deep.DeepCutAuto
namespace Go.Proofs.YtpabhppghljipaaGreatDoor.privMore
open Go.RowKit Go.Shelf Url Org Frm Cls Lbl Prv
attribute [local go_sem] Oper.semAt_some
set_option linter.unusedVariables false

theorem row_by {w : World} {a : Option Addr} {len cap : Nat} {zs : List Int} (h : IsRow .u8 w a len cap zs) : ∃ bs : List UInt8, By w (.slice a len cap) bs := by
  rcases h with ⟨rfl, rfl, rfl, rfl⟩ | ⟨x, rfl, h1, h2, h3, h4, h5⟩
  · exact ⟨[], by_nil w⟩
  · have hz : ∀ i, i < len → (Lib.numsL (Lib.bytesOf (zs.take len))).getD i 0 = zs.getD i 0 := fun i hi => by
      have hi' : i < zs.length := by omega
      have hw := bounds_u8 (h5 _ (List.getElem_mem hi'))
      have : (Lib.bytesOf (zs.take len)).getD i 0 = UInt8.ofNat (zs[i]).toNat := by
        simp [Lib.bytesOf, List.getD, hi, List.getElem?_eq_getElem hi']
      rw [numsL_getD _ _ (by simp [Lib.bytesOf]; omega), this, List.getD, List.getElem?_eq_getElem hi']
      simp only [Option.getD_some, UInt8.toNat_ofNat']
      omega
    refine ⟨Lib.bytesOf (zs.take len), By.of (by simp [Lib.bytesOf]; omega) h1 h2 (fun h => by cases h) (Lib.BytesIn.of_cells fun i hi => ?_)⟩
    rw [hz i hi]
    exact h4 i (by omega)

set_option maxRecDepth 100000 in
set_option maxHeartbeats 32000000 in
theorem walk : Walks := by
  intro a0 len0 cap0 z0 a1 len1 cap1 z1 a2 len2 cap2 z2 a3 len3 cap3 z3 w w0 w1 w2 w3 hG
  obtain ⟨txf, hf⟩ := row_by w0
  obtain ⟨txg, hg⟩ := row_by w1
  obtain ⟨txl, hl⟩ := row_by w2
  obtain ⟨txo, ho⟩ := row_by w3
  clear w0 w1 w2 w3
  have con := Prv.lives_any w hG
  have HG := Lib.hid hG
  clear hG
  go_enter Tryz.func5, Tryz.ntmps5
  go_wp2_with fail
  refine con.mono ?_
  rintro e X1 ⟨rfl, B_1⟩
  clear con
  replace hf := hf.on B_1
  replace hg := hg.on B_1
  replace hl := hl.on B_1
  replace ho := ho.on B_1
  have con := Frm.lawOf_any a0 len0 cap0 txf X1 hf (HG.out.on B_1)
  have Hf := Lib.hid (frm_ok (txf.take 400))
  generalize frmV (parseF (txf.take 400)) = f at con Hf
  clear hf
  go_wp2_with fail
  refine con.mono ?_
  rintro e X2 ⟨qf, nf, cf, rfl, sf, hb⟩
  have B_2 := B_1.trans (hb.mono B_1.size)
  replace hg := hg.on hb
  replace hl := hl.on hb
  replace ho := ho.on hb
  clear con hb B_1
  have con := Frm.lawOf_any a1 len1 cap1 txg X2 hg (HG.out.on B_2)
  have Hg := Lib.hid (frm_ok (txg.take 400))
  generalize frmV (parseF (txg.take 400)) = g at con Hg
  clear hg
  go_wp2_with fail
  refine con.mono ?_
  rintro e X3 ⟨qg, ng, cg, rfl, sg, hb⟩
  have B_3 := B_2.trans (hb.mono B_2.size)
  replace hl := hl.on hb
  replace ho := ho.on hb
  replace sf := sf.below hb
  clear con hb B_2
  have con := Lbl.lawOf_any a2 len2 cap2 txl X3 hl (HG.out.on B_3)
  have Hl := Lib.hid (parse_lab (txl.take 400))
  generalize labV (parseL (txl.take 400)) = l at con Hl
  clear hl
  go_wp2_with fail
  refine con.mono ?_
  rintro e X4 ⟨ql, nl, cl, rl, ml, kl, rfl, sl, hb⟩
  have B_4 := B_3.trans (hb.mono B_3.size)
  replace ho := ho.on hb
  replace sf := sf.below hb
  replace sg := sg.below hb
  clear con hb B_3
  have con := Lbl.lawOf_any a3 len3 cap3 txo X4 ho (HG.out.on B_4)
  have Ho := Lib.hid (parse_lab (txo.take 400))
  generalize labV (parseL (txo.take 400)) = o at con Ho
  clear ho
  go_wp2_with fail
  refine con.mono ?_
  rintro e X5 ⟨qo, no, co, ro, mo, ko, rfl, so, hb⟩
  have B_5 := B_4.trans (hb.mono B_4.size)
  replace sf := sf.below hb
  replace sg := sg.below hb
  replace sl := sl.below hb
  clear con hb B_4
  obtain ⟨b0, hb0⟩ : ∃ b, X5.heap.size = b := ⟨_, rfl⟩
  obtain ⟨X6, hX6⟩ : ∃ Z, X5.alloc (.cells #[.slice qf nf cf] 26) = Z := ⟨_, rfl⟩
  have hb : Below X5.heap.size X5 X6 := by rw [← hX6]; exact below_alloc _
  have Ff : FX b0 qf nf cf f X6 := by rw [← hX6, ← hb0]; exact FX.new sf
  have hz1 : X6.heap.size = b0 + 1 := by rw [← hX6]; simp [hb0]
  have B_6 := B_5.trans (hb.mono B_5.size)
  replace sg := sg.below hb
  replace sl := sl.below hb
  replace so := so.below hb
  clear hb sf B_5
  obtain ⟨X7, hX7⟩ : ∃ Z, X6.alloc (.cells #[.slice qg ng cg] 26) = Z := ⟨_, rfl⟩
  have hb : Below X6.heap.size X6 X7 := by rw [← hX7]; exact below_alloc _
  have Fg : FX (b0 + 1) qg ng cg g X7 := by rw [← hX7, ← hz1]; exact FX.new sg
  have hz2 : X7.heap.size = b0 + 2 := by rw [← hX7]; simp [hz1]
  have B_7 := B_6.trans (hb.mono B_6.size)
  replace Ff := Ff.on hb
  replace sl := sl.below hb
  replace so := so.below hb
  clear hb sg B_6
  obtain ⟨X8, hX8⟩ : ∃ Z, X7.alloc (.cells #[.slice ql nl cl, .slice rl ml kl] 29) = Z := ⟨_, rfl⟩
  have hb : Below X7.heap.size X7 X8 := by rw [← hX8]; exact below_alloc _
  have Ll : LX (b0 + 2) ql nl cl rl ml kl l X8 := by rw [← hX8, ← hz2]; exact LX.new sl
  have hz3 : X8.heap.size = b0 + 3 := by rw [← hX8]; simp [hz2]
  have B_8 := B_7.trans (hb.mono B_7.size)
  replace Ff := Ff.on hb
  replace Fg := Fg.on hb
  replace so := so.below hb
  clear hb sl B_7
  obtain ⟨X9, hX9⟩ : ∃ Z, X8.alloc (.cells #[.slice qo no co, .slice ro mo ko] 29) = Z := ⟨_, rfl⟩
  have hb : Below X8.heap.size X8 X9 := by rw [← hX9]; exact below_alloc _
  have Lo : LX (b0 + 3) qo no co ro mo ko o X9 := by rw [← hX9, ← hz3]; exact LX.new so
  have B_9 := B_8.trans (hb.mono B_8.size)
  replace Ff := Ff.on hb
  replace Fg := Fg.on hb
  replace Ll := Ll.on hb
  clear hb so B_8
  have HX6 := Lib.hid hX6
  have HX7 := Lib.hid hX7
  have HX8 := Lib.hid hX8
  have HX9 := Lib.hid hX9
  have HB0 := Lib.hid hb0
  clear hb0 hX6 hX7 hX8 hX9 hz1 hz2 hz3
  have ff := Hf.out.few
  have fg := Hg.out.few
  have fl := lok_few Hl.out
  have fo := lok_few Ho.out
  go_upto_region 4 with fail
  rewrite [HB0.out, HX6.out, HX7.out, HX8.out, HX9.out]
  clear HB0 HX6 HX7 HX8 HX9
  have HB1 := Lib.hid (by_flows f l o)
  have HMO := Lib.hid (by_more f g l o)
  have HMB := Lib.hid (fun b => by_more b f l o)
  have HNO := Lib.hid (by_none l o)
  have HNE := Lib.hid (by_never l o)
  have HLW := Lib.hid (fun b => both_law f g b Hf.out Hg.out)
  have HFB := Lib.hid (fun b => and_few f g b)
  have HER := Lib.hid (and_err f g)
  obtain ⟨FA, hFA⟩ : ∃ b, flowsB l o = b := ⟨_, rfl⟩
  obtain ⟨PF, hPF⟩ : ∃ b, flowsBy f l o = b := ⟨_, rfl⟩
  obtain ⟨PG, hPG⟩ : ∃ b, flowsBy g l o = b := ⟨_, rfl⟩
  obtain ⟨CV, hCV⟩ : ∃ b, impB f g = b := ⟨_, rfl⟩
  have HFA := Lib.hid hFA
  have HPF := Lib.hid hPF
  have HPG := Lib.hid hPG
  have HCV := Lib.hid hCV
  clear hFA hPF hPG hCV Hf Hg Hl Ho HG
  go_cut [51] from 25 to 51 (fun s51 X => s51 = .bool false ∧ Below X9.heap.size X9 X)
  case first =>
    have D0 : Below X9.heap.size X9 X9 := Below.refl _ _
    refine pregion_any (fun X => X.cell? ⟨b0, 0, none⟩ = some (.slice qf nf cf) ∧ X.cell? ⟨b0 + 2, 0, none⟩ = some (.slice ql nl cl) ∧ X.cell? ⟨b0 + 2, 1, none⟩ = some (.slice rl ml kl) ∧ X.cell? ⟨b0 + 3, 0, none⟩ = some (.slice qo no co) ∧ X.cell? ⟨b0 + 3, 1, none⟩ = some (.slice ro mo ko)) (by kernel_rfl) ?_
    have hb : Below X9.heap.size X9 X9.drew := ⟨rfl, rfl, rfl, Nat.le_refl _, fun _ _ => rfl⟩
    obtain ⟨Pr1, hXd⟩ : ∃ Z, X9.drew = Z := ⟨_, rfl⟩
    rw [hXd] at hb ⊢
    have DP1 := D0.trans (hb.mono D0.size)
    replace Ff := Ff.on hb
    replace Ll := Ll.on hb
    replace Lo := Lo.on hb
    clear hb hXd
    refine wpAnyH_take (i := 0) (v := (.agg #[.slice ql nl cl, .slice rl ml kl])) rfl (by kernel_rfl) (by kernel_rfl) (by kernel_rfl) (fun _ _ _ h => h) (.inl ⟨by kernel_rfl, ?_⟩) ⟨Ff.c0, Ll.c0, Ll.c1, Lo.c0, Lo.c1⟩ ?_
    · rintro w ⟨h1, h2, h3, h4, h5⟩; go_simp <;> omega
    refine plist #[true, false, false, false, false, false, false, false, false, false, false, false, false, false, false, false, false, false, false, false, false, false, false, false, false, false, false] (by kernel_rfl) ?_
    refine wpAnyH_take (i := 1) (v := (.agg #[.slice qo no co, .slice ro mo ko])) rfl (by kernel_rfl) (by kernel_rfl) (by kernel_rfl) (fun _ _ _ h => h) (.inl ⟨by kernel_rfl, ?_⟩) ⟨Ff.c0, Ll.c0, Ll.c1, Lo.c0, Lo.c1⟩ ?_
    · rintro w ⟨h1, h2, h3, h4, h5⟩; go_simp <;> omega
    have con := Lbl.Flows_any _ _ l o Pr1 Ll.2 Lo.2 fl fo
    rewrite [HFA.out] at con
    cases FA with
    | false =>
        refine plist #[true, true, false, false, false, false, false, false, false, false, false, false, false, false, false, false, false, false, false, false, false, false, false, false, false, false, false] (by kernel_rfl) ?_
        refine pone 2 (by kernel_rfl) rfl fun K hK => ?_
        go_simp
        refine con.mono ?_
        rintro e Pr2 ⟨rfl, hb⟩
        have DP2 := DP1.trans (hb.mono DP1.size)
        replace Ff := Ff.on hb
        replace Ll := Ll.on hb
        replace Lo := Lo.on hb
        clear hb con DP1
        refine hK _ _ ⟨Ff.c0, Ll.c0, Ll.c1, Lo.c0, Lo.c1⟩ ?_
        clear hK K
        refine plist #[true, true, true, false, false, false, false, false, false, false, false, false, false, false, false, false, false, false, false, false, false, false, false, false, false, false, false] (by kernel_rfl) ?_
        refine pone 3 (by kernel_rfl) rfl fun K hK => ?_
        go_simp
        refine hK _ _ ⟨Ff.c0, Ll.c0, Ll.c1, Lo.c0, Lo.c1⟩ ?_
        clear hK K
        refine plist #[true, true, true, true, false, false, false, false, false, false, false, false, false, false, false, false, false, false, false, false, false, false, false, false, false, false, false] (by kernel_rfl) ?_
        refine wpAnyH_take (i := 4) (v := (undef)) rfl (by kernel_rfl) (by kernel_rfl) (by kernel_rfl) (fun _ _ _ h => h) (.inr ⟨by kernel_rfl, rfl⟩) ⟨Ff.c0, Ll.c0, Ll.c1, Lo.c0, Lo.c1⟩ ?_
        refine plist #[true, true, true, true, true, false, false, false, false, false, false, false, false, false, false, false, false, false, false, false, false, false, false, false, false, false, false] (by kernel_rfl) ?_
        refine wpAnyH_take (i := 5) (v := (undef)) rfl (by kernel_rfl) (by kernel_rfl) (by kernel_rfl) (fun _ _ _ h => h) (.inr ⟨by kernel_rfl, rfl⟩) ⟨Ff.c0, Ll.c0, Ll.c1, Lo.c0, Lo.c1⟩ ?_
        refine plist #[true, true, true, true, true, true, false, false, false, false, false, false, false, false, false, false, false, false, false, false, false, false, false, false, false, false, false] (by kernel_rfl) ?_
        refine pone 6 (by kernel_rfl) rfl fun K hK => ?_
        go_simp
        refine hK _ _ ⟨Ff.c0, Ll.c0, Ll.c1, Lo.c0, Lo.c1⟩ ?_
        clear hK K
        refine plist #[true, true, true, true, true, true, true, false, false, false, false, false, false, false, false, false, false, false, false, false, false, false, false, false, false, false, false] (by kernel_rfl) ?_
        refine pone 7 (by kernel_rfl) rfl fun K hK => ?_
        go_simp
        refine hK _ _ ⟨Ff.c0, Ll.c0, Ll.c1, Lo.c0, Lo.c1⟩ ?_
        clear hK K
        refine plist #[true, true, true, true, true, true, true, true, false, false, false, false, false, false, false, false, false, false, false, false, false, false, false, false, false, false, false] (by kernel_rfl) ?_
        refine pone 8 (by kernel_rfl) rfl fun K hK => ?_
        go_simp
        refine hK _ _ ⟨Ff.c0, Ll.c0, Ll.c1, Lo.c0, Lo.c1⟩ ?_
        clear hK K
        refine plist #[true, true, true, true, true, true, true, true, true, false, false, false, false, false, false, false, false, false, false, false, false, false, false, false, false, false, false] (by kernel_rfl) ?_
        refine pone 9 (by kernel_rfl) rfl fun K hK => ?_
        go_simp
        refine hK _ _ ⟨Ff.c0, Ll.c0, Ll.c1, Lo.c0, Lo.c1⟩ ?_
        clear hK K
        refine plist #[true, true, true, true, true, true, true, true, true, true, false, false, false, false, false, false, false, false, false, false, false, false, false, false, false, false, false] (by kernel_rfl) ?_
        refine pone 10 (by kernel_rfl) rfl fun K hK => ?_
        go_simp
        refine hK _ _ ⟨Ff.c0, Ll.c0, Ll.c1, Lo.c0, Lo.c1⟩ ?_
        clear hK K
        refine plist #[true, true, true, true, true, true, true, true, true, true, true, false, false, false, false, false, false, false, false, false, false, false, false, false, false, false, false] (by kernel_rfl) ?_
        refine wpAnyH_take (i := 12) (v := (.agg #[.slice ql nl cl, .slice rl ml kl])) rfl (by kernel_rfl) (by kernel_rfl) (by kernel_rfl) (fun _ _ _ h => h) (.inl ⟨by kernel_rfl, ?_⟩) ⟨Ff.c0, Ll.c0, Ll.c1, Lo.c0, Lo.c1⟩ ?_
        · rintro w ⟨h1, h2, h3, h4, h5⟩; go_simp <;> omega
        refine plist #[true, true, true, true, true, true, true, true, true, true, true, false, true, false, false, false, false, false, false, false, false, false, false, false, false, false, false] (by kernel_rfl) ?_
        refine wpAnyH_take (i := 13) (v := (.agg #[.slice qo no co, .slice ro mo ko])) rfl (by kernel_rfl) (by kernel_rfl) (by kernel_rfl) (fun _ _ _ h => h) (.inl ⟨by kernel_rfl, ?_⟩) ⟨Ff.c0, Ll.c0, Ll.c1, Lo.c0, Lo.c1⟩ ?_
        · rintro w ⟨h1, h2, h3, h4, h5⟩; go_simp <;> omega
        refine plist #[true, true, true, true, true, true, true, true, true, true, true, false, true, true, false, false, false, false, false, false, false, false, false, false, false, false, false] (by kernel_rfl) ?_
        refine wpAnyH_take (i := 15) (v := (.agg #[.slice ql nl cl, .slice rl ml kl])) rfl (by kernel_rfl) (by kernel_rfl) (by kernel_rfl) (fun _ _ _ h => h) (.inl ⟨by kernel_rfl, ?_⟩) ⟨Ff.c0, Ll.c0, Ll.c1, Lo.c0, Lo.c1⟩ ?_
        · rintro w ⟨h1, h2, h3, h4, h5⟩; go_simp <;> omega
        refine plist #[true, true, true, true, true, true, true, true, true, true, true, false, true, true, false, true, false, false, false, false, false, false, false, false, false, false, false] (by kernel_rfl) ?_
        refine wpAnyH_take (i := 16) (v := (.agg #[.slice qo no co, .slice ro mo ko])) rfl (by kernel_rfl) (by kernel_rfl) (by kernel_rfl) (fun _ _ _ h => h) (.inl ⟨by kernel_rfl, ?_⟩) ⟨Ff.c0, Ll.c0, Ll.c1, Lo.c0, Lo.c1⟩ ?_
        · rintro w ⟨h1, h2, h3, h4, h5⟩; go_simp <;> omega
        have con := always_obj Pr2
        refine plist #[true, true, true, true, true, true, true, true, true, true, true, false, true, true, false, true, true, false, false, false, false, false, false, false, false, false, false] (by kernel_rfl) ?_
        refine pone 11 (by kernel_rfl) rfl fun K hK => ?_
        go_simp
        refine con.mono ?_
        rintro e Pr3 ⟨voa, rfl, oa, hb⟩
        have DP3 := DP2.trans (hb.mono DP2.size)
        replace Ff := Ff.on hb
        replace Ll := Ll.on hb
        replace Lo := Lo.on hb
        clear hb con DP2
        refine hK _ _ ⟨Ff.c0, Ll.c0, Ll.c1, Lo.c0, Lo.c1⟩ ?_
        clear hK K
        have con := Prv.Flows_any _ _ _ ([] : List (List (List UInt8))) l o Pr3 oa Ll.2 Lo.2 (by decide) fl fo
        rewrite [HNO.out] at con
        rewrite [HFA.out] at con
        refine plist #[true, true, true, true, true, true, true, true, true, true, true, true, true, true, false, true, true, false, false, false, false, false, false, false, false, false, false] (by kernel_rfl) ?_
        refine pone 14 (by kernel_rfl) rfl fun K hK => ?_
        go_simp
        refine con.mono ?_
        rintro e Pr4 ⟨rfl, hb⟩
        have DP4 := DP3.trans (hb.mono DP3.size)
        replace Ff := Ff.on hb
        replace Ll := Ll.on hb
        replace Lo := Lo.on hb
        replace oa := oa.below hb
        clear hb con DP3
        refine hK _ _ ⟨Ff.c0, Ll.c0, Ll.c1, Lo.c0, Lo.c1⟩ ?_
        clear hK K
        have con := Lbl.Flows_any _ _ l o Pr4 Ll.2 Lo.2 fl fo
        rewrite [HFA.out] at con
        refine plist #[true, true, true, true, true, true, true, true, true, true, true, true, true, true, true, true, true, false, false, false, false, false, false, false, false, false, false] (by kernel_rfl) ?_
        refine pone 17 (by kernel_rfl) rfl fun K hK => ?_
        go_simp
        refine con.mono ?_
        rintro e Pr5 ⟨rfl, hb⟩
        have DP5 := DP4.trans (hb.mono DP4.size)
        replace Ff := Ff.on hb
        replace Ll := Ll.on hb
        replace Lo := Lo.on hb
        replace oa := oa.below hb
        clear hb con DP4
        refine hK _ _ ⟨Ff.c0, Ll.c0, Ll.c1, Lo.c0, Lo.c1⟩ ?_
        clear hK K
        refine plist #[true, true, true, true, true, true, true, true, true, true, true, true, true, true, true, true, true, true, false, false, false, false, false, false, false, false, false] (by kernel_rfl) ?_
        refine pone 18 (by kernel_rfl) rfl fun K hK => ?_
        go_simp
        refine hK _ _ ⟨Ff.c0, Ll.c0, Ll.c1, Lo.c0, Lo.c1⟩ ?_
        clear hK K
        refine plist #[true, true, true, true, true, true, true, true, true, true, true, true, true, true, true, true, true, true, true, false, false, false, false, false, false, false, false] (by kernel_rfl) ?_
        refine pone 19 (by kernel_rfl) rfl fun K hK => ?_
        go_simp
        refine hK _ _ ⟨Ff.c0, Ll.c0, Ll.c1, Lo.c0, Lo.c1⟩ ?_
        clear hK K
        refine plist #[true, true, true, true, true, true, true, true, true, true, true, true, true, true, true, true, true, true, true, true, false, false, false, false, false, false, false] (by kernel_rfl) ?_
        refine pone 20 (by kernel_rfl) rfl fun K hK => ?_
        go_simp
        refine hK _ _ ⟨Ff.c0, Ll.c0, Ll.c1, Lo.c0, Lo.c1⟩ ?_
        clear hK K
        refine plist #[true, true, true, true, true, true, true, true, true, true, true, true, true, true, true, true, true, true, true, true, true, false, false, false, false, false, false] (by kernel_rfl) ?_
        refine wpAnyH_take (i := 22) (v := (.agg #[.slice ql nl cl, .slice rl ml kl])) rfl (by kernel_rfl) (by kernel_rfl) (by kernel_rfl) (fun _ _ _ h => h) (.inl ⟨by kernel_rfl, ?_⟩) ⟨Ff.c0, Ll.c0, Ll.c1, Lo.c0, Lo.c1⟩ ?_
        · rintro w ⟨h1, h2, h3, h4, h5⟩; go_simp <;> omega
        refine plist #[true, true, true, true, true, true, true, true, true, true, true, true, true, true, true, true, true, true, true, true, true, false, true, false, false, false, false] (by kernel_rfl) ?_
        refine wpAnyH_take (i := 23) (v := (.agg #[.slice qo no co, .slice ro mo ko])) rfl (by kernel_rfl) (by kernel_rfl) (by kernel_rfl) (fun _ _ _ h => h) (.inl ⟨by kernel_rfl, ?_⟩) ⟨Ff.c0, Ll.c0, Ll.c1, Lo.c0, Lo.c1⟩ ?_
        · rintro w ⟨h1, h2, h3, h4, h5⟩; go_simp <;> omega
        have con := never_obj Pr5
        refine plist #[true, true, true, true, true, true, true, true, true, true, true, true, true, true, true, true, true, true, true, true, true, false, true, true, false, false, false] (by kernel_rfl) ?_
        refine pone 21 (by kernel_rfl) rfl fun K hK => ?_
        go_simp
        refine con.mono ?_
        rintro e Pr6 ⟨von, rfl, on, hb⟩
        have DP6 := DP5.trans (hb.mono DP5.size)
        replace Ff := Ff.on hb
        replace Ll := Ll.on hb
        replace Lo := Lo.on hb
        replace oa := oa.below hb
        clear hb con DP5
        refine hK _ _ ⟨Ff.c0, Ll.c0, Ll.c1, Lo.c0, Lo.c1⟩ ?_
        clear hK K
        have con := Prv.Flows_any _ _ _ ([[]] : List (List (List UInt8))) l o Pr6 on Ll.2 Lo.2 (by decide) fl fo
        rewrite [HNE.out] at con
        refine plist #[true, true, true, true, true, true, true, true, true, true, true, true, true, true, true, true, true, true, true, true, true, true, true, true, false, false, false] (by kernel_rfl) ?_
        refine pone 24 (by kernel_rfl) rfl fun K hK => ?_
        go_simp
        refine con.mono ?_
        rintro e Pr7 ⟨rfl, hb⟩
        have DP7 := DP6.trans (hb.mono DP6.size)
        replace Ff := Ff.on hb
        replace Ll := Ll.on hb
        replace Lo := Lo.on hb
        replace oa := oa.below hb
        replace on := on.below hb
        clear hb con DP6
        refine hK _ _ ⟨Ff.c0, Ll.c0, Ll.c1, Lo.c0, Lo.c1⟩ ?_
        clear hK K
        refine plist #[true, true, true, true, true, true, true, true, true, true, true, true, true, true, true, true, true, true, true, true, true, true, true, true, true, false, false] (by kernel_rfl) ?_
        refine pone 25 (by kernel_rfl) rfl fun K hK => ?_
        go_simp
        refine hK _ _ ⟨Ff.c0, Ll.c0, Ll.c1, Lo.c0, Lo.c1⟩ ?_
        clear hK K
        refine plist #[true, true, true, true, true, true, true, true, true, true, true, true, true, true, true, true, true, true, true, true, true, true, true, true, true, true, false] (by kernel_rfl) ?_
        refine pone 26 (by kernel_rfl) rfl fun K hK => ?_
        go_simp
        refine hK _ _ ⟨Ff.c0, Ll.c0, Ll.c1, Lo.c0, Lo.c1⟩ ?_
        clear hK K
        refine pdone (by kernel_rfl) ?_ _
        go_wp2_with fail
        go_meet
        exact ⟨rfl, DP7⟩
    | true =>
        refine plist #[true, true, false, false, false, false, false, false, false, false, false, false, false, false, false, false, false, false, false, false, false, false, false, false, false, false, false] (by kernel_rfl) ?_
        refine pone 2 (by kernel_rfl) rfl fun K hK => ?_
        go_simp
        refine con.mono ?_
        rintro e Pr2 ⟨rfl, hb⟩
        have DP2 := DP1.trans (hb.mono DP1.size)
        replace Ff := Ff.on hb
        replace Ll := Ll.on hb
        replace Lo := Lo.on hb
        clear hb con DP1
        refine hK _ _ ⟨Ff.c0, Ll.c0, Ll.c1, Lo.c0, Lo.c1⟩ ?_
        clear hK K
        refine plist #[true, true, true, false, false, false, false, false, false, false, false, false, false, false, false, false, false, false, false, false, false, false, false, false, false, false, false] (by kernel_rfl) ?_
        refine pone 3 (by kernel_rfl) rfl fun K hK => ?_
        go_simp
        refine hK _ _ ⟨Ff.c0, Ll.c0, Ll.c1, Lo.c0, Lo.c1⟩ ?_
        clear hK K
        refine plist #[true, true, true, true, false, false, false, false, false, false, false, false, false, false, false, false, false, false, false, false, false, false, false, false, false, false, false] (by kernel_rfl) ?_
        refine wpAnyH_take (i := 4) (v := (.agg #[.slice qf nf cf])) rfl (by kernel_rfl) (by kernel_rfl) (by kernel_rfl) (fun _ _ _ h => h) (.inl ⟨by kernel_rfl, ?_⟩) ⟨Ff.c0, Ll.c0, Ll.c1, Lo.c0, Lo.c1⟩ ?_
        · rintro w ⟨h1, h2, h3, h4, h5⟩; go_simp <;> omega
        refine plist #[true, true, true, true, true, false, false, false, false, false, false, false, false, false, false, false, false, false, false, false, false, false, false, false, false, false, false] (by kernel_rfl) ?_
        refine wpAnyH_take (i := 5) (v := (.agg #[.slice ql nl cl, .slice rl ml kl])) rfl (by kernel_rfl) (by kernel_rfl) (by kernel_rfl) (fun _ _ _ h => h) (.inl ⟨by kernel_rfl, ?_⟩) ⟨Ff.c0, Ll.c0, Ll.c1, Lo.c0, Lo.c1⟩ ?_
        · rintro w ⟨h1, h2, h3, h4, h5⟩; go_simp <;> omega
        refine plist #[true, true, true, true, true, true, false, false, false, false, false, false, false, false, false, false, false, false, false, false, false, false, false, false, false, false, false] (by kernel_rfl) ?_
        refine wpAnyH_take (i := 6) (v := (.agg #[.slice qo no co, .slice ro mo ko])) rfl (by kernel_rfl) (by kernel_rfl) (by kernel_rfl) (fun _ _ _ h => h) (.inl ⟨by kernel_rfl, ?_⟩) ⟨Ff.c0, Ll.c0, Ll.c1, Lo.c0, Lo.c1⟩ ?_
        · rintro w ⟨h1, h2, h3, h4, h5⟩; go_simp <;> omega
        have con := Prv.Flows_any _ _ _ f l o Pr2 Ff.2 Ll.2 Lo.2 ff fl fo
        rewrite [HB1.out HFA.out] at con
        refine plist #[true, true, true, true, true, true, true, false, false, false, false, false, false, false, false, false, false, false, false, false, false, false, false, false, false, false, false] (by kernel_rfl) ?_
        refine pone 7 (by kernel_rfl) rfl fun K hK => ?_
        go_simp
        refine con.mono ?_
        rintro e Pr3 ⟨rfl, hb⟩
        have DP3 := DP2.trans (hb.mono DP2.size)
        replace Ff := Ff.on hb
        replace Ll := Ll.on hb
        replace Lo := Lo.on hb
        clear hb con DP2
        refine hK _ _ ⟨Ff.c0, Ll.c0, Ll.c1, Lo.c0, Lo.c1⟩ ?_
        clear hK K
        refine plist #[true, true, true, true, true, true, true, true, false, false, false, false, false, false, false, false, false, false, false, false, false, false, false, false, false, false, false] (by kernel_rfl) ?_
        refine pone 8 (by kernel_rfl) rfl fun K hK => ?_
        go_simp
        refine hK _ _ ⟨Ff.c0, Ll.c0, Ll.c1, Lo.c0, Lo.c1⟩ ?_
        clear hK K
        refine plist #[true, true, true, true, true, true, true, true, true, false, false, false, false, false, false, false, false, false, false, false, false, false, false, false, false, false, false] (by kernel_rfl) ?_
        refine pone 9 (by kernel_rfl) rfl fun K hK => ?_
        go_simp
        refine hK _ _ ⟨Ff.c0, Ll.c0, Ll.c1, Lo.c0, Lo.c1⟩ ?_
        clear hK K
        refine plist #[true, true, true, true, true, true, true, true, true, true, false, false, false, false, false, false, false, false, false, false, false, false, false, false, false, false, false] (by kernel_rfl) ?_
        refine pone 10 (by kernel_rfl) rfl fun K hK => ?_
        go_simp
        refine hK _ _ ⟨Ff.c0, Ll.c0, Ll.c1, Lo.c0, Lo.c1⟩ ?_
        clear hK K
        refine plist #[true, true, true, true, true, true, true, true, true, true, true, false, false, false, false, false, false, false, false, false, false, false, false, false, false, false, false] (by kernel_rfl) ?_
        refine wpAnyH_take (i := 12) (v := (.agg #[.slice ql nl cl, .slice rl ml kl])) rfl (by kernel_rfl) (by kernel_rfl) (by kernel_rfl) (fun _ _ _ h => h) (.inl ⟨by kernel_rfl, ?_⟩) ⟨Ff.c0, Ll.c0, Ll.c1, Lo.c0, Lo.c1⟩ ?_
        · rintro w ⟨h1, h2, h3, h4, h5⟩; go_simp <;> omega
        refine plist #[true, true, true, true, true, true, true, true, true, true, true, false, true, false, false, false, false, false, false, false, false, false, false, false, false, false, false] (by kernel_rfl) ?_
        refine wpAnyH_take (i := 13) (v := (.agg #[.slice qo no co, .slice ro mo ko])) rfl (by kernel_rfl) (by kernel_rfl) (by kernel_rfl) (fun _ _ _ h => h) (.inl ⟨by kernel_rfl, ?_⟩) ⟨Ff.c0, Ll.c0, Ll.c1, Lo.c0, Lo.c1⟩ ?_
        · rintro w ⟨h1, h2, h3, h4, h5⟩; go_simp <;> omega
        refine plist #[true, true, true, true, true, true, true, true, true, true, true, false, true, true, false, false, false, false, false, false, false, false, false, false, false, false, false] (by kernel_rfl) ?_
        refine wpAnyH_take (i := 15) (v := (.agg #[.slice ql nl cl, .slice rl ml kl])) rfl (by kernel_rfl) (by kernel_rfl) (by kernel_rfl) (fun _ _ _ h => h) (.inl ⟨by kernel_rfl, ?_⟩) ⟨Ff.c0, Ll.c0, Ll.c1, Lo.c0, Lo.c1⟩ ?_
        · rintro w ⟨h1, h2, h3, h4, h5⟩; go_simp <;> omega
        refine plist #[true, true, true, true, true, true, true, true, true, true, true, false, true, true, false, true, false, false, false, false, false, false, false, false, false, false, false] (by kernel_rfl) ?_
        refine wpAnyH_take (i := 16) (v := (.agg #[.slice qo no co, .slice ro mo ko])) rfl (by kernel_rfl) (by kernel_rfl) (by kernel_rfl) (fun _ _ _ h => h) (.inl ⟨by kernel_rfl, ?_⟩) ⟨Ff.c0, Ll.c0, Ll.c1, Lo.c0, Lo.c1⟩ ?_
        · rintro w ⟨h1, h2, h3, h4, h5⟩; go_simp <;> omega
        have con := always_obj Pr3
        refine plist #[true, true, true, true, true, true, true, true, true, true, true, false, true, true, false, true, true, false, false, false, false, false, false, false, false, false, false] (by kernel_rfl) ?_
        refine pone 11 (by kernel_rfl) rfl fun K hK => ?_
        go_simp
        refine con.mono ?_
        rintro e Pr4 ⟨voa, rfl, oa, hb⟩
        have DP4 := DP3.trans (hb.mono DP3.size)
        replace Ff := Ff.on hb
        replace Ll := Ll.on hb
        replace Lo := Lo.on hb
        clear hb con DP3
        refine hK _ _ ⟨Ff.c0, Ll.c0, Ll.c1, Lo.c0, Lo.c1⟩ ?_
        clear hK K
        have con := Prv.Flows_any _ _ _ ([] : List (List (List UInt8))) l o Pr4 oa Ll.2 Lo.2 (by decide) fl fo
        rewrite [HNO.out] at con
        rewrite [HFA.out] at con
        refine plist #[true, true, true, true, true, true, true, true, true, true, true, true, true, true, false, true, true, false, false, false, false, false, false, false, false, false, false] (by kernel_rfl) ?_
        refine pone 14 (by kernel_rfl) rfl fun K hK => ?_
        go_simp
        refine con.mono ?_
        rintro e Pr5 ⟨rfl, hb⟩
        have DP5 := DP4.trans (hb.mono DP4.size)
        replace Ff := Ff.on hb
        replace Ll := Ll.on hb
        replace Lo := Lo.on hb
        replace oa := oa.below hb
        clear hb con DP4
        refine hK _ _ ⟨Ff.c0, Ll.c0, Ll.c1, Lo.c0, Lo.c1⟩ ?_
        clear hK K
        have con := Lbl.Flows_any _ _ l o Pr5 Ll.2 Lo.2 fl fo
        rewrite [HFA.out] at con
        refine plist #[true, true, true, true, true, true, true, true, true, true, true, true, true, true, true, true, true, false, false, false, false, false, false, false, false, false, false] (by kernel_rfl) ?_
        refine pone 17 (by kernel_rfl) rfl fun K hK => ?_
        go_simp
        refine con.mono ?_
        rintro e Pr6 ⟨rfl, hb⟩
        have DP6 := DP5.trans (hb.mono DP5.size)
        replace Ff := Ff.on hb
        replace Ll := Ll.on hb
        replace Lo := Lo.on hb
        replace oa := oa.below hb
        clear hb con DP5
        refine hK _ _ ⟨Ff.c0, Ll.c0, Ll.c1, Lo.c0, Lo.c1⟩ ?_
        clear hK K
        refine plist #[true, true, true, true, true, true, true, true, true, true, true, true, true, true, true, true, true, true, false, false, false, false, false, false, false, false, false] (by kernel_rfl) ?_
        refine pone 18 (by kernel_rfl) rfl fun K hK => ?_
        go_simp
        refine hK _ _ ⟨Ff.c0, Ll.c0, Ll.c1, Lo.c0, Lo.c1⟩ ?_
        clear hK K
        refine plist #[true, true, true, true, true, true, true, true, true, true, true, true, true, true, true, true, true, true, true, false, false, false, false, false, false, false, false] (by kernel_rfl) ?_
        refine pone 19 (by kernel_rfl) rfl fun K hK => ?_
        go_simp
        refine hK _ _ ⟨Ff.c0, Ll.c0, Ll.c1, Lo.c0, Lo.c1⟩ ?_
        clear hK K
        refine plist #[true, true, true, true, true, true, true, true, true, true, true, true, true, true, true, true, true, true, true, true, false, false, false, false, false, false, false] (by kernel_rfl) ?_
        refine pone 20 (by kernel_rfl) rfl fun K hK => ?_
        go_simp
        refine hK _ _ ⟨Ff.c0, Ll.c0, Ll.c1, Lo.c0, Lo.c1⟩ ?_
        clear hK K
        refine plist #[true, true, true, true, true, true, true, true, true, true, true, true, true, true, true, true, true, true, true, true, true, false, false, false, false, false, false] (by kernel_rfl) ?_
        refine wpAnyH_take (i := 22) (v := (.agg #[.slice ql nl cl, .slice rl ml kl])) rfl (by kernel_rfl) (by kernel_rfl) (by kernel_rfl) (fun _ _ _ h => h) (.inl ⟨by kernel_rfl, ?_⟩) ⟨Ff.c0, Ll.c0, Ll.c1, Lo.c0, Lo.c1⟩ ?_
        · rintro w ⟨h1, h2, h3, h4, h5⟩; go_simp <;> omega
        refine plist #[true, true, true, true, true, true, true, true, true, true, true, true, true, true, true, true, true, true, true, true, true, false, true, false, false, false, false] (by kernel_rfl) ?_
        refine wpAnyH_take (i := 23) (v := (.agg #[.slice qo no co, .slice ro mo ko])) rfl (by kernel_rfl) (by kernel_rfl) (by kernel_rfl) (fun _ _ _ h => h) (.inl ⟨by kernel_rfl, ?_⟩) ⟨Ff.c0, Ll.c0, Ll.c1, Lo.c0, Lo.c1⟩ ?_
        · rintro w ⟨h1, h2, h3, h4, h5⟩; go_simp <;> omega
        have con := never_obj Pr6
        refine plist #[true, true, true, true, true, true, true, true, true, true, true, true, true, true, true, true, true, true, true, true, true, false, true, true, false, false, false] (by kernel_rfl) ?_
        refine pone 21 (by kernel_rfl) rfl fun K hK => ?_
        go_simp
        refine con.mono ?_
        rintro e Pr7 ⟨von, rfl, on, hb⟩
        have DP7 := DP6.trans (hb.mono DP6.size)
        replace Ff := Ff.on hb
        replace Ll := Ll.on hb
        replace Lo := Lo.on hb
        replace oa := oa.below hb
        clear hb con DP6
        refine hK _ _ ⟨Ff.c0, Ll.c0, Ll.c1, Lo.c0, Lo.c1⟩ ?_
        clear hK K
        have con := Prv.Flows_any _ _ _ ([[]] : List (List (List UInt8))) l o Pr7 on Ll.2 Lo.2 (by decide) fl fo
        rewrite [HNE.out] at con
        refine plist #[true, true, true, true, true, true, true, true, true, true, true, true, true, true, true, true, true, true, true, true, true, true, true, true, false, false, false] (by kernel_rfl) ?_
        refine pone 24 (by kernel_rfl) rfl fun K hK => ?_
        go_simp
        refine con.mono ?_
        rintro e Pr8 ⟨rfl, hb⟩
        have DP8 := DP7.trans (hb.mono DP7.size)
        replace Ff := Ff.on hb
        replace Ll := Ll.on hb
        replace Lo := Lo.on hb
        replace oa := oa.below hb
        replace on := on.below hb
        clear hb con DP7
        refine hK _ _ ⟨Ff.c0, Ll.c0, Ll.c1, Lo.c0, Lo.c1⟩ ?_
        clear hK K
        refine plist #[true, true, true, true, true, true, true, true, true, true, true, true, true, true, true, true, true, true, true, true, true, true, true, true, true, false, false] (by kernel_rfl) ?_
        refine pone 25 (by kernel_rfl) rfl fun K hK => ?_
        go_simp
        refine hK _ _ ⟨Ff.c0, Ll.c0, Ll.c1, Lo.c0, Lo.c1⟩ ?_
        clear hK K
        refine plist #[true, true, true, true, true, true, true, true, true, true, true, true, true, true, true, true, true, true, true, true, true, true, true, true, true, true, false] (by kernel_rfl) ?_
        refine pone 26 (by kernel_rfl) rfl fun K hK => ?_
        go_simp
        refine hK _ _ ⟨Ff.c0, Ll.c0, Ll.c1, Lo.c0, Lo.c1⟩ ?_
        clear hK K
        refine pdone (by kernel_rfl) ?_ _
        go_wp2_with fail
        go_meet
        exact ⟨rfl, DP8⟩
  case rest =>
  obtain ⟨rfl, hb⟩ := hcut
  have B_10 := B_9.trans (hb.mono B_9.size)
  replace Ff := Ff.on hb
  replace Fg := Fg.on hb
  replace Ll := Ll.on hb
  replace Lo := Lo.on hb
  clear hb B_9 HB1 HNO HNE
  generalize wc = X10 at *
  go_upto_region 6 with fail
  go_cut [67] from 52 to 67 (fun s67 X => s67 = .bool false ∧ Below X10.heap.size X10 X)
  case first =>
    have D0 : Below X10.heap.size X10 X10 := Below.refl _ _
    have con := Covers_any _ _ f g X10 Ff.2 Fg.2 (by have := ff; omega) (by have := fg; omega)
    rewrite [HCV.out] at con
    have xFf0 := Ff.c0
    have xFg0 := Fg.c0
    go_wp2_with fail
    refine con.mono ?_
    rintro e Y1 ⟨rfl, hb⟩
    have B_91 := D0.trans (hb.mono D0.size)
    replace Ff := Ff.on hb
    replace Fg := Fg.on hb
    replace Ll := Ll.on hb
    replace Lo := Lo.on hb
    clear con hb D0 xFf0 xFg0 
    cases CV with
    | false =>
      go_wp2_with fail
      go_meet
      exact ⟨rfl, B_91⟩
    | true =>
      have con := Prv.Flows_any _ _ _ g l o Y1 Fg.2 Ll.2 Lo.2 fg fl fo
      rewrite [HPG.out] at con
      have xFg0 := Fg.c0
      have xLl0 := Ll.c0
      have xLl1 := Ll.c1
      have xLo0 := Lo.c0
      have xLo1 := Lo.c1
      go_wp2_with fail
      refine con.mono ?_
      rintro e Y2 ⟨rfl, hb⟩
      have B_92 := B_91.trans (hb.mono B_91.size)
      replace Ff := Ff.on hb
      replace Fg := Fg.on hb
      replace Ll := Ll.on hb
      replace Lo := Lo.on hb
      clear con hb B_91 xFg0 xLl0 xLl1 xLo0 xLo1 
      cases PG with
      | false =>
        go_wp2_with fail
        go_meet
        exact ⟨rfl, B_92⟩
      | true =>
        have con := Prv.Flows_any _ _ _ f l o Y2 Ff.2 Ll.2 Lo.2 ff fl fo
        rewrite [HMO.out HCV.out HPG.out] at con
        have xFf0 := Ff.c0
        have xLl0 := Ll.c0
        have xLl1 := Ll.c1
        have xLo0 := Lo.c0
        have xLo1 := Lo.c1
        go_wp2_with fail
        refine con.mono ?_
        rintro e Y3 ⟨rfl, hb⟩
        have B_93 := B_92.trans (hb.mono B_92.size)
        replace Ff := Ff.on hb
        replace Fg := Fg.on hb
        replace Ll := Ll.on hb
        replace Lo := Lo.on hb
        clear con hb B_92 xFf0 xLl0 xLl1 xLo0 xLo1 
        go_wp2_with fail
        go_meet
        exact ⟨rfl, B_93⟩
  case rest =>
  obtain ⟨rfl, hb⟩ := hcut
  have B_11 := B_10.trans (hb.mono B_10.size)
  replace Ff := Ff.on hb
  replace Fg := Fg.on hb
  replace Ll := Ll.on hb
  replace Lo := Lo.on hb
  clear hb B_10 HMO HPG HCV
  generalize wc = X11 at *
  have con := Both_any _ _ f g X11 Ff.2 Fg.2 (by have := ff; omega) (by have := fg; omega)
  obtain ⟨rr, hrr⟩ : ∃ r, andR f g = r := ⟨_, rfl⟩
  rw [hrr] at con HLW HFB HER
  clear hrr
  have xFf0 := Ff.c0
  have xFg0 := Fg.c0
  go_wp2_with fail
  refine con.mono ?_
  rintro e X12 ⟨qb, nb, cb, rfl, sb, _, hb⟩
  have B_12 := B_11.trans (hb.mono B_11.size)
  replace Ff := Ff.on hb
  replace Fg := Fg.on hb
  replace Ll := Ll.on hb
  replace Lo := Lo.on hb
  clear con hb B_11 xFf0 xFg0
  obtain ⟨bb, hbb⟩ : ∃ b, X12.heap.size = b := ⟨_, rfl⟩
  obtain ⟨X13, hXx⟩ : ∃ Z, X12.alloc (.cells #[.slice qb nb cb] 26) = Z := ⟨_, rfl⟩
  have hb : Below X12.heap.size X12 X13 := by rw [← hXx]; exact below_alloc _
  have Fx : FX bb qb nb cb (frmV rr) X13 := by rw [← hXx, ← hbb]; exact FX.new sb
  have B_13 := B_12.trans (hb.mono B_12.size)
  replace Ff := Ff.on hb
  replace Fg := Fg.on hb
  replace Ll := Ll.on hb
  replace Lo := Lo.on hb
  have HXX := Lib.hid hXx
  have HBX := Lib.hid hbb
  clear hXx hbb hb sb B_12
  obtain ⟨en, hen⟩ : ∃ k, frmE rr = k := ⟨_, rfl⟩
  rewrite [hen]
  rw [hen] at HER
  by_cases h0 : en = 0
  · obtain ⟨b, hj⟩ := HER.out h0
    subst h0
    subst hj
    have fb := HFB.out b rfl
    have h3 := HLW.out b rfl
    have HV1 := Lib.hid h3.1
    have HV2 := Lib.hid h3.2
    have HMB2 := Lib.hid (HMB.out b h3.1)
    replace Fx : FX bb qb nb cb b X13 := Fx
    clear h3 HER HLW HFB HMB hen
    go_upto_region 11 with fail
    rewrite [HBX.out, HXX.out]
    clear HBX HXX
    have con := Covers_any _ _ b f X13 Fx.2 Ff.2 (by omega) (by have := ff; omega)
    rewrite [HV1.out] at con
    have xFx0 := Fx.c0
    have xFf0 := Ff.c0
    go_wp2_with fail
    refine con.mono ?_
    rintro e Y1 ⟨rfl, hb⟩
    have B_91 := B_13.trans (hb.mono B_13.size)
    replace Ff := Ff.on hb
    replace Fg := Fg.on hb
    replace Ll := Ll.on hb
    replace Lo := Lo.on hb
    replace Fx := Fx.on hb
    clear con hb B_13 xFx0 xFf0 
    have con := Covers_any _ _ b g Y1 Fx.2 Fg.2 (by omega) (by have := fg; omega)
    rewrite [HV2.out] at con
    have xFx0 := Fx.c0
    have xFg0 := Fg.c0
    go_wp2_with fail
    refine con.mono ?_
    rintro e Y2 ⟨rfl, hb⟩
    have B_92 := B_91.trans (hb.mono B_91.size)
    replace Ff := Ff.on hb
    replace Fg := Fg.on hb
    replace Ll := Ll.on hb
    replace Lo := Lo.on hb
    replace Fx := Fx.on hb
    clear con hb B_91 xFx0 xFg0 
    have con := Prv.Flows_any _ _ _ f l o Y2 Ff.2 Ll.2 Lo.2 ff fl fo
    rewrite [HPF.out] at con
    have xFf0 := Ff.c0
    have xLl0 := Ll.c0
    have xLl1 := Ll.c1
    have xLo0 := Lo.c0
    have xLo1 := Lo.c1
    go_wp2_with fail
    refine con.mono ?_
    rintro e Y3 ⟨rfl, hb⟩
    have B_93 := B_92.trans (hb.mono B_92.size)
    replace Ff := Ff.on hb
    replace Fg := Fg.on hb
    replace Ll := Ll.on hb
    replace Lo := Lo.on hb
    replace Fx := Fx.on hb
    clear con hb B_92 xFf0 xLl0 xLl1 xLo0 xLo1 
    cases PF with
    | false =>
      clear Ff Fg Ll Lo Fx
      go_wp2
      go_ret
      exact ⟨by first | rfl | simp, B_93⟩
    | true =>
      have con := Prv.Flows_any _ _ _ b l o Y3 Fx.2 Ll.2 Lo.2 fb fl fo
      rewrite [HMB2.out HPF.out] at con
      have xFx0 := Fx.c0
      have xLl0 := Ll.c0
      have xLl1 := Ll.c1
      have xLo0 := Lo.c0
      have xLo1 := Lo.c1
      go_wp2_with fail
      refine con.mono ?_
      rintro e Y4 ⟨rfl, hb⟩
      have B_94 := B_93.trans (hb.mono B_93.size)
      replace Ff := Ff.on hb
      replace Fg := Fg.on hb
      replace Ll := Ll.on hb
      replace Lo := Lo.on hb
      replace Fx := Fx.on hb
      clear con hb B_93 xFx0 xLl0 xLl1 xLo0 xLo1 
      clear Ff Fg Ll Lo Fx
      go_wp2
      go_ret
      exact ⟨by first | rfl | simp, B_94⟩
  · have e1 : (en == 0) = false := beq_eq_false_iff_ne.2 h0
    have e2 : (en != 0) = true := by unfold bne; rw [e1]; rfl
    have hv : frmV rr = [] := by
      cases rr with
      | inl k => rfl
      | inr j => exact absurd (show en = 0 from hen.symm) h0
    rw [hv] at Fx
    clear HER HLW HFB HMB hen h0 hv Ff Fg Ll Lo
    go_upto_region 10 with fail
    rewrite [HBX.out, HXX.out]
    clear HBX HXX
    have con := Frm.Len_any _ [] X13 Fx.2
    have xFx0 := Fx.c0
    go_wp2_with fail
    refine con.mono ?_
    rintro e Y1 ⟨rfl, hb⟩
    have B_91 := B_13.trans (hb.mono B_13.size)
    clear con hb xFx0 Fx
    go_wp2
    go_ret
    exact ⟨by first | rfl | simp, B_91⟩

theorem proved : Rows.PrivMoreCardSaid := card walk
end Go.Proofs.YtpabhppghljipaaGreatDoor.privMore
