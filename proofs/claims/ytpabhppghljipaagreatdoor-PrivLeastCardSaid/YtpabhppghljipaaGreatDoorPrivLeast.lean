/- PrivLeast: the law returns true at whatever input, and writes nothing that was there: its tied card. Conditions: none. -/
import Derived.Test.YtpabhppghljipaaGreatDoorBaseF
import Derived.Deep.DeepCutAuto
namespace Go.Proofs.YtpabhppghljipaaGreatDoor.privLeast
open Go.RowKit Go.Shelf Url Org Frm Cls Lbl Prv
attribute [local go_sem] Oper.semAt_some
set_option linter.unusedVariables false

theorem row_by {w : World} {a : Option Addr} {len cap : Nat} {zs : List Int} (h : IsRow .u8 w a len cap zs) : ∃ bs : List UInt8, By w (.slice a len cap) bs := by
  rcases h with ⟨rfl, rfl, rfl, rfl⟩ | ⟨x, rfl, h1, h2, h3, h4, h5⟩
  · exact ⟨[], by_nil w⟩
  · have hz : ∀ i, i < len → (Lib.numsL (Lib.bytesOf (zs.take len))).getD i 0 = zs.getD i 0 := fun i hi => by
      have hi' : i < zs.length := by omega
      have hw := bounds_u8 (h5 _ (List.getElem_mem hi'))
      have : (Lib.bytesOf (zs.take len)).getD i 0 = UInt8.ofNat (zs[i]).toNat := by
        simp [Lib.bytesOf, List.getD, hi, List.getElem?_eq_getElem hi']
      rw [numsL_getD _ _ (by simp [Lib.bytesOf]; omega), this, List.getD, List.getElem?_eq_getElem hi']
      simp only [Option.getD_some, UInt8.toNat_ofNat']
      omega
    refine ⟨Lib.bytesOf (zs.take len), By.of (by simp [Lib.bytesOf]; omega) h1 h2 (fun h => by cases h) (Lib.BytesIn.of_cells fun i hi => ?_)⟩
    rw [hz i hi]
    exact h4 i (by omega)

set_option maxRecDepth 100000 in
set_option maxHeartbeats 32000000 in
theorem walk : Walks := by
  intro a0 len0 cap0 z0 a1 len1 cap1 z1 a2 len2 cap2 z2 w w0 w1 w2 hG
  obtain ⟨txf, hf⟩ := row_by w0
  obtain ⟨txl, hl⟩ := row_by w1
  obtain ⟨txo, ho⟩ := row_by w2
  clear w0 w1 w2
  have con := Prv.lives_any w hG
  have HG := Lib.hid hG
  clear hG
  go_enter Tryz.func6, Tryz.ntmps6
  go_wp2_with fail
  refine con.mono ?_
  rintro e X1 ⟨rfl, B_1⟩
  clear con
  replace hf := hf.on B_1
  replace hl := hl.on B_1
  replace ho := ho.on B_1
  have con := Frm.lawOf_any a0 len0 cap0 txf X1 hf (HG.out.on B_1)
  have Hf := Lib.hid (frm_ok (txf.take 400))
  generalize frmV (parseF (txf.take 400)) = f at con Hf
  clear hf
  go_wp2_with fail
  refine con.mono ?_
  rintro e X2 ⟨qf, nf, cf, rfl, sf, hb⟩
  have B_2 := B_1.trans (hb.mono B_1.size)
  replace hl := hl.on hb
  replace ho := ho.on hb
  clear con hb B_1
  have con := Lbl.lawOf_any a1 len1 cap1 txl X2 hl (HG.out.on B_2)
  have Hl := Lib.hid (parse_lab (txl.take 400))
  generalize labV (parseL (txl.take 400)) = l at con Hl
  clear hl
  go_wp2_with fail
  refine con.mono ?_
  rintro e X3 ⟨ql, nl, cl, rl, ml, kl, rfl, sl, hb⟩
  have B_3 := B_2.trans (hb.mono B_2.size)
  replace ho := ho.on hb
  replace sf := sf.below hb
  clear con hb B_2
  have con := Lbl.lawOf_any a2 len2 cap2 txo X3 ho (HG.out.on B_3)
  have Ho := Lib.hid (parse_lab (txo.take 400))
  generalize labV (parseL (txo.take 400)) = o at con Ho
  clear ho
  go_wp2_with fail
  refine con.mono ?_
  rintro e X4 ⟨qo, no, co, ro, mo, ko, rfl, so, hb⟩
  have B_4 := B_3.trans (hb.mono B_3.size)
  replace sf := sf.below hb
  replace sl := sl.below hb
  clear con hb B_3
  obtain ⟨b0, hb0⟩ : ∃ b, X4.heap.size = b := ⟨_, rfl⟩
  obtain ⟨X5, hX5⟩ : ∃ Z, X4.alloc (.cells #[.slice qf nf cf] 26) = Z := ⟨_, rfl⟩
  have hb : Below X4.heap.size X4 X5 := by rw [← hX5]; exact below_alloc _
  have Ff : FX b0 qf nf cf f X5 := by rw [← hX5, ← hb0]; exact FX.new sf
  have hz1 : X5.heap.size = b0 + 1 := by rw [← hX5]; simp [hb0]
  have B_5 := B_4.trans (hb.mono B_4.size)
  replace sl := sl.below hb
  replace so := so.below hb
  clear hb sf B_4
  obtain ⟨X6, hX6⟩ : ∃ Z, X5.alloc (.cells #[.slice ql nl cl, .slice rl ml kl] 29) = Z := ⟨_, rfl⟩
  have hb : Below X5.heap.size X5 X6 := by rw [← hX6]; exact below_alloc _
  have Ll : LX (b0 + 1) ql nl cl rl ml kl l X6 := by rw [← hX6, ← hz1]; exact LX.new sl
  have hz2 : X6.heap.size = b0 + 2 := by rw [← hX6]; simp [hz1]
  have B_6 := B_5.trans (hb.mono B_5.size)
  replace Ff := Ff.on hb
  replace so := so.below hb
  clear hb sl B_5
  obtain ⟨X7, hX7⟩ : ∃ Z, X6.alloc (.cells #[.slice qo no co, .slice ro mo ko] 29) = Z := ⟨_, rfl⟩
  have hb : Below X6.heap.size X6 X7 := by rw [← hX7]; exact below_alloc _
  have Lo : LX (b0 + 2) qo no co ro mo ko o X7 := by rw [← hX7, ← hz2]; exact LX.new so
  have B_7 := B_6.trans (hb.mono B_6.size)
  replace Ff := Ff.on hb
  replace Ll := Ll.on hb
  clear hb so B_6
  have HX5 := Lib.hid hX5
  have HX6 := Lib.hid hX6
  have HX7 := Lib.hid hX7
  have HB0 := Lib.hid hb0
  clear hb0 hX5 hX6 hX7 hz1 hz2
  have ff := Hf.out.few
  have fl := lok_few Hl.out
  have fo := lok_few Ho.out
  go_upto_region 4 with fail
  rewrite [HB0.out, HX5.out, HX6.out, HX7.out]
  clear HB0 HX5 HX6 HX7
  have HE := Lib.hid (least_err f l)
  have HW := Lib.hid (fun j => least_law f l j Hf.out Hl.out)
  have HFW := Lib.hid (fun j => least_few f l j fl)
  have con := Least_any _ _ f l X7 Ff.2 Ll.2 ff fl
  obtain ⟨rr, hrr⟩ : ∃ r, leastR f l = r := ⟨_, rfl⟩
  rw [hrr] at con HE HW HFW
  obtain ⟨PF, hPF⟩ : ∃ b, flowsBy f l o = b := ⟨_, rfl⟩
  have HPF := Lib.hid hPF
  clear hrr hPF Hf Hl Ho HG
  have xFf0 := Ff.c0
  have xLl0 := Ll.c0
  have xLl1 := Ll.c1
  go_wp2_with fail
  refine con.mono ?_
  rintro e X8 ⟨qx, nx, cx, rx, mx, kx, rfl, x1, x2, _, _, hb⟩
  have B_8 := B_7.trans (hb.mono B_7.size)
  replace Ff := Ff.on hb
  replace Ll := Ll.on hb
  replace Lo := Lo.on hb
  have sx : LabIs X8 (.agg #[.slice qx nx cx, .slice rx mx kx]) (labV rr) := ⟨_, _, _, _, _, _, rfl, x1, x2⟩
  clear con hb B_7 xFf0 xLl0 xLl1 x1 x2
  obtain ⟨bx, hbx⟩ : ∃ b, X8.heap.size = b := ⟨_, rfl⟩
  obtain ⟨X9, hXx⟩ : ∃ Z, X8.alloc (.cells #[.slice qx nx cx, .slice rx mx kx] 29) = Z := ⟨_, rfl⟩
  have hb : Below X8.heap.size X8 X9 := by rw [← hXx]; exact below_alloc _
  have Lx : LX bx qx nx cx rx mx kx (labV rr) X9 := by rw [← hXx, ← hbx]; exact LX.new sx
  have B_9 := B_8.trans (hb.mono B_8.size)
  replace Ff := Ff.on hb
  replace Ll := Ll.on hb
  replace Lo := Lo.on hb
  have HXX := Lib.hid hXx
  have HBX := Lib.hid hbx
  clear hXx hbx hb sx B_8
  obtain ⟨en, hen⟩ : ∃ k, labE rr = k := ⟨_, rfl⟩
  rewrite [hen]
  rw [hen] at HE
  by_cases h0 : en = 0
  · obtain ⟨j, hj⟩ := HE.out h0
    subst h0
    subst hj
    have fj := HFW.out j rfl
    have h3 := HW.out j rfl
    have HJ1 := Lib.hid h3.1
    have HJ2 := Lib.hid h3.2.1
    have HJ3 := Lib.hid (h3.2.2 o)
    replace Lx : LX bx qx nx cx rx mx kx j X9 := Lx
    rw [HPF.out] at HJ3
    clear h3 HE HW HFW hen
    go_upto_region 7 with fail
    rewrite [HBX.out, HXX.out]
    clear HBX HXX
    refine pregion_any (fun X => X.cell? ⟨b0, 0, none⟩ = some (.slice qf nf cf) ∧ X.cell? ⟨b0 + 1, 0, none⟩ = some (.slice ql nl cl) ∧ X.cell? ⟨b0 + 1, 1, none⟩ = some (.slice rl ml kl) ∧ X.cell? ⟨b0 + 2, 0, none⟩ = some (.slice qo no co) ∧ X.cell? ⟨b0 + 2, 1, none⟩ = some (.slice ro mo ko) ∧ X.cell? ⟨bx, 0, none⟩ = some (.slice qx nx cx) ∧ X.cell? ⟨bx, 1, none⟩ = some (.slice rx mx kx)) (by kernel_rfl) ?_
    have hb : Below X9.heap.size X9 X9.drew := ⟨rfl, rfl, rfl, Nat.le_refl _, fun _ _ => rfl⟩
    obtain ⟨Pr1, hXd⟩ : ∃ Z, X9.drew = Z := ⟨_, rfl⟩
    rw [hXd] at hb ⊢
    have DP1 := B_9.trans (hb.mono B_9.size)
    replace Ff := Ff.on hb
    replace Ll := Ll.on hb
    replace Lo := Lo.on hb
    replace Lx := Lx.on hb
    clear hb hXd
    refine wpAnyH_take (i := 0) (v := (.agg #[.slice qf nf cf])) rfl (by kernel_rfl) (by kernel_rfl) (by kernel_rfl) (fun _ _ _ h => h) (.inl ⟨by kernel_rfl, ?_⟩) ⟨Ff.c0, Ll.c0, Ll.c1, Lo.c0, Lo.c1, Lx.c0, Lx.c1⟩ ?_
    · rintro w ⟨h1, h2, h3, h4, h5, h6, h7⟩; go_simp <;> omega
    refine plist #[true, false, false, false, false, false, false, false, false, false, false, false, false, false, false, false, false, false, false, false] (by kernel_rfl) ?_
    refine wpAnyH_take (i := 1) (v := (.agg #[.slice ql nl cl, .slice rl ml kl])) rfl (by kernel_rfl) (by kernel_rfl) (by kernel_rfl) (fun _ _ _ h => h) (.inl ⟨by kernel_rfl, ?_⟩) ⟨Ff.c0, Ll.c0, Ll.c1, Lo.c0, Lo.c1, Lx.c0, Lx.c1⟩ ?_
    · rintro w ⟨h1, h2, h3, h4, h5, h6, h7⟩; go_simp <;> omega
    refine plist #[true, true, false, false, false, false, false, false, false, false, false, false, false, false, false, false, false, false, false, false] (by kernel_rfl) ?_
    refine wpAnyH_take (i := 2) (v := (.agg #[.slice qx nx cx, .slice rx mx kx])) rfl (by kernel_rfl) (by kernel_rfl) (by kernel_rfl) (fun _ _ _ h => h) (.inl ⟨by kernel_rfl, ?_⟩) ⟨Ff.c0, Ll.c0, Ll.c1, Lo.c0, Lo.c1, Lx.c0, Lx.c1⟩ ?_
    · rintro w ⟨h1, h2, h3, h4, h5, h6, h7⟩; go_simp <;> omega
    have con := Prv.Flows_any _ _ _ f l j Pr1 Ff.2 Ll.2 Lx.2 ff fl fj
    rewrite [HJ1.out] at con
    refine plist #[true, true, true, false, false, false, false, false, false, false, false, false, false, false, false, false, false, false, false, false] (by kernel_rfl) ?_
    refine pone 3 (by kernel_rfl) rfl fun K hK => ?_
    go_simp
    refine con.mono ?_
    rintro e Pr2 ⟨rfl, hb⟩
    have DP2 := DP1.trans (hb.mono DP1.size)
    replace Ff := Ff.on hb
    replace Ll := Ll.on hb
    replace Lo := Lo.on hb
    replace Lx := Lx.on hb
    clear hb con DP1
    refine hK _ _ ⟨Ff.c0, Ll.c0, Ll.c1, Lo.c0, Lo.c1, Lx.c0, Lx.c1⟩ ?_
    clear hK K
    refine plist #[true, true, true, true, false, false, false, false, false, false, false, false, false, false, false, false, false, false, false, false] (by kernel_rfl) ?_
    refine pone 4 (by kernel_rfl) rfl fun K hK => ?_
    go_simp
    refine hK _ _ ⟨Ff.c0, Ll.c0, Ll.c1, Lo.c0, Lo.c1, Lx.c0, Lx.c1⟩ ?_
    clear hK K
    refine plist #[true, true, true, true, true, false, false, false, false, false, false, false, false, false, false, false, false, false, false, false] (by kernel_rfl) ?_
    refine wpAnyH_take (i := 5) (v := (.agg #[.slice qx nx cx, .slice rx mx kx])) rfl (by kernel_rfl) (by kernel_rfl) (by kernel_rfl) (fun _ _ _ h => h) (.inl ⟨by kernel_rfl, ?_⟩) ⟨Ff.c0, Ll.c0, Ll.c1, Lo.c0, Lo.c1, Lx.c0, Lx.c1⟩ ?_
    · rintro w ⟨h1, h2, h3, h4, h5, h6, h7⟩; go_simp <;> omega
    refine plist #[true, true, true, true, true, true, false, false, false, false, false, false, false, false, false, false, false, false, false, false] (by kernel_rfl) ?_
    refine wpAnyH_take (i := 6) (v := (.agg #[.slice ql nl cl, .slice rl ml kl])) rfl (by kernel_rfl) (by kernel_rfl) (by kernel_rfl) (fun _ _ _ h => h) (.inl ⟨by kernel_rfl, ?_⟩) ⟨Ff.c0, Ll.c0, Ll.c1, Lo.c0, Lo.c1, Lx.c0, Lx.c1⟩ ?_
    · rintro w ⟨h1, h2, h3, h4, h5, h6, h7⟩; go_simp <;> omega
    have con := Lbl.Flows_any _ _ j l Pr2 Lx.2 Ll.2 fj fl
    rewrite [HJ2.out] at con
    refine plist #[true, true, true, true, true, true, true, false, false, false, false, false, false, false, false, false, false, false, false, false] (by kernel_rfl) ?_
    refine pone 7 (by kernel_rfl) rfl fun K hK => ?_
    go_simp
    refine con.mono ?_
    rintro e Pr3 ⟨rfl, hb⟩
    have DP3 := DP2.trans (hb.mono DP2.size)
    replace Ff := Ff.on hb
    replace Ll := Ll.on hb
    replace Lo := Lo.on hb
    replace Lx := Lx.on hb
    clear hb con DP2
    refine hK _ _ ⟨Ff.c0, Ll.c0, Ll.c1, Lo.c0, Lo.c1, Lx.c0, Lx.c1⟩ ?_
    clear hK K
    refine plist #[true, true, true, true, true, true, true, true, false, false, false, false, false, false, false, false, false, false, false, false] (by kernel_rfl) ?_
    refine pone 8 (by kernel_rfl) rfl fun K hK => ?_
    go_simp
    refine hK _ _ ⟨Ff.c0, Ll.c0, Ll.c1, Lo.c0, Lo.c1, Lx.c0, Lx.c1⟩ ?_
    clear hK K
    refine plist #[true, true, true, true, true, true, true, true, true, false, false, false, false, false, false, false, false, false, false, false] (by kernel_rfl) ?_
    refine pone 9 (by kernel_rfl) rfl fun K hK => ?_
    go_simp
    refine hK _ _ ⟨Ff.c0, Ll.c0, Ll.c1, Lo.c0, Lo.c1, Lx.c0, Lx.c1⟩ ?_
    clear hK K
    refine plist #[true, true, true, true, true, true, true, true, true, true, false, false, false, false, false, false, false, false, false, false] (by kernel_rfl) ?_
    refine wpAnyH_take (i := 10) (v := (.agg #[.slice qx nx cx, .slice rx mx kx])) rfl (by kernel_rfl) (by kernel_rfl) (by kernel_rfl) (fun _ _ _ h => h) (.inl ⟨by kernel_rfl, ?_⟩) ⟨Ff.c0, Ll.c0, Ll.c1, Lo.c0, Lo.c1, Lx.c0, Lx.c1⟩ ?_
    · rintro w ⟨h1, h2, h3, h4, h5, h6, h7⟩; go_simp <;> omega
    refine plist #[true, true, true, true, true, true, true, true, true, true, true, false, false, false, false, false, false, false, false, false] (by kernel_rfl) ?_
    refine wpAnyH_take (i := 11) (v := (.agg #[.slice qo no co, .slice ro mo ko])) rfl (by kernel_rfl) (by kernel_rfl) (by kernel_rfl) (fun _ _ _ h => h) (.inl ⟨by kernel_rfl, ?_⟩) ⟨Ff.c0, Ll.c0, Ll.c1, Lo.c0, Lo.c1, Lx.c0, Lx.c1⟩ ?_
    · rintro w ⟨h1, h2, h3, h4, h5, h6, h7⟩; go_simp <;> omega
    refine plist #[true, true, true, true, true, true, true, true, true, true, true, true, false, false, false, false, false, false, false, false] (by kernel_rfl) ?_
    refine wpAnyH_take (i := 13) (v := (.agg #[.slice qf nf cf])) rfl (by kernel_rfl) (by kernel_rfl) (by kernel_rfl) (fun _ _ _ h => h) (.inl ⟨by kernel_rfl, ?_⟩) ⟨Ff.c0, Ll.c0, Ll.c1, Lo.c0, Lo.c1, Lx.c0, Lx.c1⟩ ?_
    · rintro w ⟨h1, h2, h3, h4, h5, h6, h7⟩; go_simp <;> omega
    refine plist #[true, true, true, true, true, true, true, true, true, true, true, true, false, true, false, false, false, false, false, false] (by kernel_rfl) ?_
    refine wpAnyH_take (i := 14) (v := (.agg #[.slice ql nl cl, .slice rl ml kl])) rfl (by kernel_rfl) (by kernel_rfl) (by kernel_rfl) (fun _ _ _ h => h) (.inl ⟨by kernel_rfl, ?_⟩) ⟨Ff.c0, Ll.c0, Ll.c1, Lo.c0, Lo.c1, Lx.c0, Lx.c1⟩ ?_
    · rintro w ⟨h1, h2, h3, h4, h5, h6, h7⟩; go_simp <;> omega
    refine plist #[true, true, true, true, true, true, true, true, true, true, true, true, false, true, true, false, false, false, false, false] (by kernel_rfl) ?_
    refine wpAnyH_take (i := 15) (v := (.agg #[.slice qo no co, .slice ro mo ko])) rfl (by kernel_rfl) (by kernel_rfl) (by kernel_rfl) (fun _ _ _ h => h) (.inl ⟨by kernel_rfl, ?_⟩) ⟨Ff.c0, Ll.c0, Ll.c1, Lo.c0, Lo.c1, Lx.c0, Lx.c1⟩ ?_
    · rintro w ⟨h1, h2, h3, h4, h5, h6, h7⟩; go_simp <;> omega
    have con := Lbl.Flows_any _ _ j o Pr3 Lx.2 Lo.2 fj fo
    rewrite [HJ3.out] at con
    cases PF with
    | false =>
        refine plist #[true, true, true, true, true, true, true, true, true, true, true, true, false, true, true, true, false, false, false, false] (by kernel_rfl) ?_
        refine pone 12 (by kernel_rfl) rfl fun K hK => ?_
        go_simp
        refine con.mono ?_
        rintro e Pr4 ⟨rfl, hb⟩
        have DP4 := DP3.trans (hb.mono DP3.size)
        replace Ff := Ff.on hb
        replace Ll := Ll.on hb
        replace Lo := Lo.on hb
        replace Lx := Lx.on hb
        clear hb con DP3
        refine hK _ _ ⟨Ff.c0, Ll.c0, Ll.c1, Lo.c0, Lo.c1, Lx.c0, Lx.c1⟩ ?_
        clear hK K
        have con := Prv.Flows_any _ _ _ f l o Pr4 Ff.2 Ll.2 Lo.2 ff fl fo
        rewrite [HPF.out] at con
        refine plist #[true, true, true, true, true, true, true, true, true, true, true, true, true, true, true, true, false, false, false, false] (by kernel_rfl) ?_
        refine pone 16 (by kernel_rfl) rfl fun K hK => ?_
        go_simp
        refine con.mono ?_
        rintro e Pr5 ⟨rfl, hb⟩
        have DP5 := DP4.trans (hb.mono DP4.size)
        replace Ff := Ff.on hb
        replace Ll := Ll.on hb
        replace Lo := Lo.on hb
        replace Lx := Lx.on hb
        clear hb con DP4
        refine hK _ _ ⟨Ff.c0, Ll.c0, Ll.c1, Lo.c0, Lo.c1, Lx.c0, Lx.c1⟩ ?_
        clear hK K
        refine plist #[true, true, true, true, true, true, true, true, true, true, true, true, true, true, true, true, true, false, false, false] (by kernel_rfl) ?_
        refine pone 17 (by kernel_rfl) rfl fun K hK => ?_
        go_simp
        refine hK _ _ ⟨Ff.c0, Ll.c0, Ll.c1, Lo.c0, Lo.c1, Lx.c0, Lx.c1⟩ ?_
        clear hK K
        refine plist #[true, true, true, true, true, true, true, true, true, true, true, true, true, true, true, true, true, true, false, false] (by kernel_rfl) ?_
        refine pone 18 (by kernel_rfl) rfl fun K hK => ?_
        go_simp
        refine hK _ _ ⟨Ff.c0, Ll.c0, Ll.c1, Lo.c0, Lo.c1, Lx.c0, Lx.c1⟩ ?_
        clear hK K
        refine plist #[true, true, true, true, true, true, true, true, true, true, true, true, true, true, true, true, true, true, true, false] (by kernel_rfl) ?_
        refine pone 19 (by kernel_rfl) rfl fun K hK => ?_
        go_simp
        refine hK _ _ ⟨Ff.c0, Ll.c0, Ll.c1, Lo.c0, Lo.c1, Lx.c0, Lx.c1⟩ ?_
        clear hK K
        refine pdone (by kernel_rfl) ?_ _
        go_wp2
        go_ret
        exact ⟨by first | rfl | simp, DP5⟩
    | true =>
        refine plist #[true, true, true, true, true, true, true, true, true, true, true, true, false, true, true, true, false, false, false, false] (by kernel_rfl) ?_
        refine pone 12 (by kernel_rfl) rfl fun K hK => ?_
        go_simp
        refine con.mono ?_
        rintro e Pr4 ⟨rfl, hb⟩
        have DP4 := DP3.trans (hb.mono DP3.size)
        replace Ff := Ff.on hb
        replace Ll := Ll.on hb
        replace Lo := Lo.on hb
        replace Lx := Lx.on hb
        clear hb con DP3
        refine hK _ _ ⟨Ff.c0, Ll.c0, Ll.c1, Lo.c0, Lo.c1, Lx.c0, Lx.c1⟩ ?_
        clear hK K
        have con := Prv.Flows_any _ _ _ f l o Pr4 Ff.2 Ll.2 Lo.2 ff fl fo
        rewrite [HPF.out] at con
        refine plist #[true, true, true, true, true, true, true, true, true, true, true, true, true, true, true, true, false, false, false, false] (by kernel_rfl) ?_
        refine pone 16 (by kernel_rfl) rfl fun K hK => ?_
        go_simp
        refine con.mono ?_
        rintro e Pr5 ⟨rfl, hb⟩
        have DP5 := DP4.trans (hb.mono DP4.size)
        replace Ff := Ff.on hb
        replace Ll := Ll.on hb
        replace Lo := Lo.on hb
        replace Lx := Lx.on hb
        clear hb con DP4
        refine hK _ _ ⟨Ff.c0, Ll.c0, Ll.c1, Lo.c0, Lo.c1, Lx.c0, Lx.c1⟩ ?_
        clear hK K
        refine plist #[true, true, true, true, true, true, true, true, true, true, true, true, true, true, true, true, true, false, false, false] (by kernel_rfl) ?_
        refine pone 17 (by kernel_rfl) rfl fun K hK => ?_
        go_simp
        refine hK _ _ ⟨Ff.c0, Ll.c0, Ll.c1, Lo.c0, Lo.c1, Lx.c0, Lx.c1⟩ ?_
        clear hK K
        refine plist #[true, true, true, true, true, true, true, true, true, true, true, true, true, true, true, true, true, true, false, false] (by kernel_rfl) ?_
        refine pone 18 (by kernel_rfl) rfl fun K hK => ?_
        go_simp
        refine hK _ _ ⟨Ff.c0, Ll.c0, Ll.c1, Lo.c0, Lo.c1, Lx.c0, Lx.c1⟩ ?_
        clear hK K
        refine plist #[true, true, true, true, true, true, true, true, true, true, true, true, true, true, true, true, true, true, true, false] (by kernel_rfl) ?_
        refine pone 19 (by kernel_rfl) rfl fun K hK => ?_
        go_simp
        refine hK _ _ ⟨Ff.c0, Ll.c0, Ll.c1, Lo.c0, Lo.c1, Lx.c0, Lx.c1⟩ ?_
        clear hK K
        refine pdone (by kernel_rfl) ?_ _
        go_wp2
        go_ret
        exact ⟨by first | rfl | simp, DP5⟩
  · have e1 : (en == 0) = false := beq_eq_false_iff_ne.2 h0
    have e2 : (en != 0) = true := by unfold bne; rw [e1]; rfl
    have hv : labV rr = ⟨[], []⟩ := by
      cases rr with
      | inl k => rfl
      | inr j => exact absurd (show en = 0 from hen.symm) h0
    rw [hv] at Lx
    have HS := Lib.hid ((sameB_iff (⟨[], []⟩ : Lab) ⟨[], []⟩).2 rfl)
    clear HE HW HFW hen h0 hv
    go_upto_region 6 with fail
    rewrite [HBX.out, HXX.out]
    clear HBX HXX
    refine pregion_any (fun X => X.cell? ⟨bx, 0, none⟩ = some (.slice qx nx cx) ∧ X.cell? ⟨bx, 1, none⟩ = some (.slice rx mx kx)) (by kernel_rfl) ?_
    have hb : Below X9.heap.size X9 X9.drew := ⟨rfl, rfl, rfl, Nat.le_refl _, fun _ _ => rfl⟩
    obtain ⟨Pr1, hXd⟩ : ∃ Z, X9.drew = Z := ⟨_, rfl⟩
    rw [hXd] at hb ⊢
    have DP1 := B_9.trans (hb.mono B_9.size)
    replace Lx := Lx.on hb
    clear hb hXd
    refine wpAnyH_take (i := 0) (v := (.agg #[.slice qx nx cx, .slice rx mx kx])) rfl (by kernel_rfl) (by kernel_rfl) (by kernel_rfl) (fun _ _ _ h => h) (.inl ⟨by kernel_rfl, ?_⟩) ⟨Lx.c0, Lx.c1⟩ ?_
    · rintro w ⟨h1, h2⟩; go_simp <;> omega
    have con := Open_any Pr1
    refine plist #[true, false, false, false] (by kernel_rfl) ?_
    refine pone 1 (by kernel_rfl) rfl fun K hK => ?_
    go_simp
    refine con.mono ?_
    rintro e Pr2 ⟨vo, rfl, oo, hb⟩
    have DP2 := DP1.trans (hb.mono DP1.size)
    replace Lx := Lx.on hb
    clear hb con DP1
    refine hK _ _ ⟨Lx.c0, Lx.c1⟩ ?_
    clear hK K
    have con := Lbl.Same_any _ _ ⟨[], []⟩ ⟨[], []⟩ Pr2 Lx.2 oo open_few open_few
    rewrite [HS.out] at con
    refine plist #[true, true, false, false] (by kernel_rfl) ?_
    refine pone 2 (by kernel_rfl) rfl fun K hK => ?_
    go_simp
    refine con.mono ?_
    rintro e Pr3 ⟨rfl, hb⟩
    have DP3 := DP2.trans (hb.mono DP2.size)
    replace Lx := Lx.on hb
    replace oo := oo.below hb
    clear hb con DP2
    refine hK _ _ ⟨Lx.c0, Lx.c1⟩ ?_
    clear hK K
    refine plist #[true, true, true, false] (by kernel_rfl) ?_
    refine pone 3 (by kernel_rfl) rfl fun K hK => ?_
    go_simp
    refine hK _ _ ⟨Lx.c0, Lx.c1⟩ ?_
    clear hK K
    refine pdone (by kernel_rfl) ?_ _
    go_wp2
    go_ret
    exact ⟨by first | rfl | simp, DP3⟩

theorem proved : Rows.PrivLeastCardSaid := card walk
end Go.Proofs.YtpabhppghljipaaGreatDoor.privLeast
