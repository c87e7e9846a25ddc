/- PrivChains: the law returns true at whatever input, and writes nothing that was there: its tied card. Conditions: none. -/
import Derived.Test.YtpabhppghljipaaGreatDoorBaseD
import Derived.Deep.DeepCutAuto
namespace Go.Proofs.YtpabhppghljipaaGreatDoor.privChains
open Go.RowKit Go.Shelf Url Org Frm Cls Lbl Prv
attribute [local go_sem] Oper.semAt_some
set_option linter.unusedVariables false

theorem row_by {w : World} {a : Option Addr} {len cap : Nat} {zs : List Int} (h : IsRow .u8 w a len cap zs) : ∃ bs : List UInt8, By w (.slice a len cap) bs := by
  rcases h with ⟨rfl, rfl, rfl, rfl⟩ | ⟨x, rfl, h1, h2, h3, h4, h5⟩
  · exact ⟨[], by_nil w⟩
  · have hz : ∀ i, i < len → (Lib.numsL (Lib.bytesOf (zs.take len))).getD i 0 = zs.getD i 0 := fun i hi => by
      have hi' : i < zs.length := by omega
      have hw := bounds_u8 (h5 _ (List.getElem_mem hi'))
      have : (Lib.bytesOf (zs.take len)).getD i 0 = UInt8.ofNat (zs[i]).toNat := by
        simp [Lib.bytesOf, List.getD, hi, List.getElem?_eq_getElem hi']
      rw [numsL_getD _ _ (by simp [Lib.bytesOf]; omega), this, List.getD, List.getElem?_eq_getElem hi']
      simp only [Option.getD_some, UInt8.toNat_ofNat']
      omega
    refine ⟨Lib.bytesOf (zs.take len), By.of (by simp [Lib.bytesOf]; omega) h1 h2 (fun h => by cases h) (Lib.BytesIn.of_cells fun i hi => ?_)⟩
    rw [hz i hi]
    exact h4 i (by omega)

set_option maxRecDepth 100000 in
set_option maxHeartbeats 32000000 in
theorem walk : Walks := by
  intro a0 len0 cap0 z0 a1 len1 cap1 z1 a2 len2 cap2 z2 a3 len3 cap3 z3 w w0 w1 w2 w3 hG
  obtain ⟨txf, hf⟩ := row_by w0
  obtain ⟨txl, hl⟩ := row_by w1
  obtain ⟨txo, ho⟩ := row_by w2
  obtain ⟨txm, hm⟩ := row_by w3
  clear w0 w1 w2 w3
  have con := Prv.lives_any w hG
  have HG := Lib.hid hG
  clear hG
  go_enter Tryz.func7, Tryz.ntmps7
  go_wp2_with fail
  refine con.mono ?_
  rintro e X1 ⟨rfl, B_1⟩
  clear con
  replace hf := hf.on B_1
  replace hl := hl.on B_1
  replace ho := ho.on B_1
  replace hm := hm.on B_1
  have con := Frm.lawOf_any a0 len0 cap0 txf X1 hf (HG.out.on B_1)
  have Hf := Lib.hid (frm_ok (txf.take 400))
  generalize frmV (parseF (txf.take 400)) = f at con Hf
  clear hf
  go_wp2_with fail
  refine con.mono ?_
  rintro e X2 ⟨qf, nf, cf, rfl, sf, hb⟩
  have B_2 := B_1.trans (hb.mono B_1.size)
  replace hl := hl.on hb
  replace ho := ho.on hb
  replace hm := hm.on hb
  clear con hb B_1
  have con := Lbl.lawOf_any a1 len1 cap1 txl X2 hl (HG.out.on B_2)
  have Hl := Lib.hid (parse_lab (txl.take 400))
  generalize labV (parseL (txl.take 400)) = l at con Hl
  clear hl
  go_wp2_with fail
  refine con.mono ?_
  rintro e X3 ⟨ql, nl, cl, rl, ml, kl, rfl, sl, hb⟩
  have B_3 := B_2.trans (hb.mono B_2.size)
  replace ho := ho.on hb
  replace hm := hm.on hb
  replace sf := sf.below hb
  clear con hb B_2
  have con := Lbl.lawOf_any a2 len2 cap2 txo X3 ho (HG.out.on B_3)
  have Ho := Lib.hid (parse_lab (txo.take 400))
  generalize labV (parseL (txo.take 400)) = o at con Ho
  clear ho
  go_wp2_with fail
  refine con.mono ?_
  rintro e X4 ⟨qo, no, co, ro, mo, ko, rfl, so, hb⟩
  have B_4 := B_3.trans (hb.mono B_3.size)
  replace hm := hm.on hb
  replace sf := sf.below hb
  replace sl := sl.below hb
  clear con hb B_3
  have con := Lbl.lawOf_any a3 len3 cap3 txm X4 hm (HG.out.on B_4)
  have Hm := Lib.hid (parse_lab (txm.take 400))
  generalize labV (parseL (txm.take 400)) = m at con Hm
  clear hm
  go_wp2_with fail
  refine con.mono ?_
  rintro e X5 ⟨qm, nm, cm, rm, mm, km, rfl, sm, hb⟩
  have B_5 := B_4.trans (hb.mono B_4.size)
  replace sf := sf.below hb
  replace sl := sl.below hb
  replace so := so.below hb
  clear con hb B_4
  obtain ⟨b0, hb0⟩ : ∃ b, X5.heap.size = b := ⟨_, rfl⟩
  obtain ⟨X6, hX6⟩ : ∃ Z, X5.alloc (.cells #[.slice qf nf cf] 26) = Z := ⟨_, rfl⟩
  have hb : Below X5.heap.size X5 X6 := by rw [← hX6]; exact below_alloc _
  have Ff : FX b0 qf nf cf f X6 := by rw [← hX6, ← hb0]; exact FX.new sf
  have hz1 : X6.heap.size = b0 + 1 := by rw [← hX6]; simp [hb0]
  have B_6 := B_5.trans (hb.mono B_5.size)
  replace sl := sl.below hb
  replace so := so.below hb
  replace sm := sm.below hb
  clear hb sf B_5
  obtain ⟨X7, hX7⟩ : ∃ Z, X6.alloc (.cells #[.slice ql nl cl, .slice rl ml kl] 29) = Z := ⟨_, rfl⟩
  have hb : Below X6.heap.size X6 X7 := by rw [← hX7]; exact below_alloc _
  have Ll : LX (b0 + 1) ql nl cl rl ml kl l X7 := by rw [← hX7, ← hz1]; exact LX.new sl
  have hz2 : X7.heap.size = b0 + 2 := by rw [← hX7]; simp [hz1]
  have B_7 := B_6.trans (hb.mono B_6.size)
  replace Ff := Ff.on hb
  replace so := so.below hb
  replace sm := sm.below hb
  clear hb sl B_6
  obtain ⟨X8, hX8⟩ : ∃ Z, X7.alloc (.cells #[.slice qo no co, .slice ro mo ko] 29) = Z := ⟨_, rfl⟩
  have hb : Below X7.heap.size X7 X8 := by rw [← hX8]; exact below_alloc _
  have Lo : LX (b0 + 2) qo no co ro mo ko o X8 := by rw [← hX8, ← hz2]; exact LX.new so
  have hz3 : X8.heap.size = b0 + 3 := by rw [← hX8]; simp [hz2]
  have B_8 := B_7.trans (hb.mono B_7.size)
  replace Ff := Ff.on hb
  replace Ll := Ll.on hb
  replace sm := sm.below hb
  clear hb so B_7
  obtain ⟨X9, hX9⟩ : ∃ Z, X8.alloc (.cells #[.slice qm nm cm, .slice rm mm km] 29) = Z := ⟨_, rfl⟩
  have hb : Below X8.heap.size X8 X9 := by rw [← hX9]; exact below_alloc _
  have Lm : LX (b0 + 3) qm nm cm rm mm km m X9 := by rw [← hX9, ← hz3]; exact LX.new sm
  have B_9 := B_8.trans (hb.mono B_8.size)
  replace Ff := Ff.on hb
  replace Ll := Ll.on hb
  replace Lo := Lo.on hb
  clear hb sm B_8
  have HX6 := Lib.hid hX6
  have HX7 := Lib.hid hX7
  have HX8 := Lib.hid hX8
  have HX9 := Lib.hid hX9
  have HB0 := Lib.hid hb0
  clear hb0 hX6 hX7 hX8 hX9 hz1 hz2 hz3
  have ff := Hf.out.few
  have fl := lok_few Hl.out
  have fo := lok_few Ho.out
  have fm := lok_few Hm.out
  go_upto_region 4 with fail
  rewrite [HB0.out, HX6.out, HX7.out, HX8.out, HX9.out]
  clear HB0 HX6 HX7 HX8 HX9
  have HT := Lib.hid (by_trans f l o m)
  obtain ⟨P1, hP1⟩ : ∃ b, flowsBy f l o = b := ⟨_, rfl⟩
  obtain ⟨P2, hP2⟩ : ∃ b, flowsBy f o m = b := ⟨_, rfl⟩
  obtain ⟨P3, hP3⟩ : ∃ b, flowsBy f l m = b := ⟨_, rfl⟩
  rw [hP1, hP2, hP3] at HT
  have H1 := Lib.hid hP1
  have H2 := Lib.hid hP2
  have H3 := Lib.hid hP3
  clear hP1 hP2 hP3 Hf Hl Ho Hm HG
  have con := Prv.Flows_any _ _ _ f l o X9 Ff.2 Ll.2 Lo.2 ff fl fo
  rewrite [H1.out] at con
  have xFf0 := Ff.c0
  have xLl0 := Ll.c0
  have xLl1 := Ll.c1
  have xLo0 := Lo.c0
  have xLo1 := Lo.c1
  go_wp2_with fail
  refine con.mono ?_
  rintro e X10 ⟨rfl, hb⟩
  have B_10 := B_9.trans (hb.mono B_9.size)
  replace Ff := Ff.on hb
  replace Ll := Ll.on hb
  replace Lo := Lo.on hb
  replace Lm := Lm.on hb
  clear con hb B_9 xFf0 xLl0 xLl1 xLo0 xLo1 H1
  cases P1 with
  | false =>
    clear HT H2 H3 Ff Ll Lo Lm
    go_wp2
    go_ret
    exact ⟨by first | rfl | simp, B_10⟩
  | true =>
    have con := Prv.Flows_any _ _ _ f o m X10 Ff.2 Lo.2 Lm.2 ff fo fm
    rewrite [H2.out] at con
    have xFf0 := Ff.c0
    have xLo0 := Lo.c0
    have xLo1 := Lo.c1
    have xLm0 := Lm.c0
    have xLm1 := Lm.c1
    go_wp2_with fail
    refine con.mono ?_
    rintro e X11 ⟨rfl, hb⟩
    have B_11 := B_10.trans (hb.mono B_10.size)
    replace Ff := Ff.on hb
    replace Ll := Ll.on hb
    replace Lo := Lo.on hb
    replace Lm := Lm.on hb
    clear con hb B_10 xFf0 xLo0 xLo1 xLm0 xLm1 H2
    cases P2 with
    | false =>
      clear HT H3 Ff Ll Lo Lm
      go_wp2
      go_ret
      exact ⟨by first | rfl | simp, B_11⟩
    | true =>
      have h3 : P3 = true := by have := HT.out; simpa using this
      subst h3
      have con := Prv.Flows_any _ _ _ f l m X11 Ff.2 Ll.2 Lm.2 ff fl fm
      rewrite [H3.out] at con
      have xFf0 := Ff.c0
      have xLl0 := Ll.c0
      have xLl1 := Ll.c1
      have xLm0 := Lm.c0
      have xLm1 := Lm.c1
      go_wp2_with fail
      refine con.mono ?_
      rintro e X12 ⟨rfl, hb⟩
      have B_12 := B_11.trans (hb.mono B_11.size)
      replace Ff := Ff.on hb
      replace Ll := Ll.on hb
      replace Lo := Lo.on hb
      replace Lm := Lm.on hb
      clear con hb B_11 xFf0 xLl0 xLl1 xLm0 xLm1 H3 HT
      clear Ff Ll Lo Lm
      go_wp2
      go_ret
      exact ⟨by first | rfl | simp, B_12⟩

theorem proved : Rows.PrivChainsCardSaid := card walk
end Go.Proofs.YtpabhppghljipaaGreatDoor.privChains
