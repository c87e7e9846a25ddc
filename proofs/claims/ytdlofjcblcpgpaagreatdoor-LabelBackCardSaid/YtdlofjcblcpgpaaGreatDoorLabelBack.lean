/- LabelBack: the law returns true at whatever input, and writes nothing that was there: its tied card. Conditions: none. -/
import Derived.Test.YtdlofjcblcpgpaaGreatDoorBaseF
import Derived.Deep.DeepCutAuto
namespace Go.Proofs.YtdlofjcblcpgpaaGreatDoor.labelBack
open Go.RowKit Go.Shelf Url Org Frm Cls Lbl
attribute [local go_sem] Oper.semAt_some
set_option linter.unusedVariables false

theorem row_by {w : World} {a : Option Addr} {len cap : Nat} {zs : List Int} (h : IsRow .u8 w a len cap zs) : ∃ bs : List UInt8, By w (.slice a len cap) bs := by
  rcases h with ⟨rfl, rfl, rfl, rfl⟩ | ⟨x, rfl, h1, h2, h3, h4, h5⟩
  · exact ⟨[], by_nil w⟩
  · have hz : ∀ i, i < len → (Lib.numsL (Lib.bytesOf (zs.take len))).getD i 0 = zs.getD i 0 := fun i hi => by
      have hi' : i < zs.length := by omega
      have hw := bounds_u8 (h5 _ (List.getElem_mem hi'))
      have : (Lib.bytesOf (zs.take len)).getD i 0 = UInt8.ofNat (zs[i]).toNat := by
        simp [Lib.bytesOf, List.getD, hi, List.getElem?_eq_getElem hi']
      rw [numsL_getD _ _ (by simp [Lib.bytesOf]; omega), this, List.getD, List.getElem?_eq_getElem hi']
      simp only [Option.getD_some, UInt8.toNat_ofNat']
      omega
    refine ⟨Lib.bytesOf (zs.take len), By.of (by simp [Lib.bytesOf]; omega) h1 h2 (fun h => by cases h) (Lib.BytesIn.of_cells fun i hi => ?_)⟩
    rw [hz i hi]
    exact h4 i (by omega)

theorem lxfrm {b : Nat} {q1 : Option Addr} {n1 c1 : Nat} {q2 : Option Addr} {n2 c2 : Nat} {l : Lab} {X : World} (h : LX b q1 n1 c1 q2 n2 c2 l X) : FrmIs X (.agg #[.slice q1 n1 c1]) l.s ∧ FrmIs X (.agg #[.slice q2 n2 c2]) l.i := by
  obtain ⟨_, _, _, _, _, _, he, h1, h2⟩ := h.2
  cases he
  exact ⟨h1, h2⟩
theorem mk_of (a : ByteArray) : (⟨a.data.toList.toArray⟩ : ByteArray) = a := by simp
theorem same_self (l : Lab) : sameB l l = true := (sameB_iff l l).2 rfl

set_option maxRecDepth 100000 in
set_option maxHeartbeats 16000000 in
theorem walk : Walks := by
  intro a0 len0 cap0 z0 a1 w w0 w1 hG
  obtain ⟨ta, ha⟩ := row_by w0
  obtain ⟨p, rfl⟩ : ∃ p : List UInt8, a1 = ⟨p.toArray⟩ := ⟨a1.data.toList, (mk_of a1).symm⟩
  clear w0 w1
  have con := lives_any w hG
  have HG := Lib.hid hG
  have HSZ := Lib.hid (mk_size p)
  clear hG
  by_cases hbig : 300 < p.length
  · have d1 : decide ((300 : Int) < (p.length : Int)) = true := by simp; omega
    have d1' : decide ((300 : Int) < ((⟨p.toArray⟩ : ByteArray).size : Int)) = true := by rewrite [HSZ.out]; exact d1
    clear hbig ha
    go_enter Tryz.func7, Tryz.ntmps7
    go_wp2_with fail
    refine con.mono ?_
    rintro e X1 ⟨rfl, B_1⟩
    clear con
    have con := lives_any X1 (HG.out.on B_1)
    go_wp2_with fail
    refine con.mono ?_
    rintro e X2 ⟨rfl, hb⟩
    clear con
    go_wp2
    go_ret
    exact ⟨rfl, B_1.trans (hb.mono B_1.size)⟩
  have d1 : decide ((300 : Int) < (p.length : Int)) = false := by simp; omega
  have d1' : decide ((300 : Int) < ((⟨p.toArray⟩ : ByteArray).size : Int)) = false := by rewrite [HSZ.out]; exact d1
  have hpl : p.length ≤ 1300 := by omega
  clear hbig
  go_enter Tryz.func7, Tryz.ntmps7
  go_wp2_with fail
  refine con.mono ?_
  rintro e X1 ⟨rfl, B_1⟩
  clear con
  have con := lawOf_any a0 len0 cap0 ta X1 (ha.on B_1) (HG.out.on B_1)
  have Hl := Lib.hid (parse_lab (ta.take 400))
  have hT := parse_lab_short (ta.take 400) (by rw [List.length_take]; omega)
  generalize labV (parseL (ta.take 400)) = l at con Hl hT
  clear ha
  go_wp2_with fail
  refine con.mono ?_
  rintro e X2 ⟨q5, n5, c5, r5, m5, d5, rfl, s5, hb⟩
  have B_2 := B_1.trans (hb.mono B_1.size)
  clear con hb B_1 d1 d1'
  obtain ⟨b5, hb5⟩ : ∃ b, X2.heap.size = b := ⟨_, rfl⟩
  obtain ⟨X3, hX3⟩ : ∃ Z, X2.alloc (.cells #[.slice q5 n5 c5, .slice r5 m5 d5] 28) = Z := ⟨_, rfl⟩
  have L5 : LX b5 q5 n5 c5 r5 m5 d5 l X3 := by rw [← hX3, ← hb5]; exact LX.new s5
  have hb : Below X2.heap.size X2 X3 := by rw [← hX3]; exact below_alloc _
  have B_3 := B_2.trans (hb.mono B_2.size)
  have HX3 := Lib.hid hX3
  have HB5 := Lib.hid hb5
  clear hX3 hb5 s5 hb B_2
  have fl := lok_few Hl.out
  have hTl : (labT l).length ≤ 2415 := by rw [lab_len]; omega
  have HP := Lib.hid (lab_text l Hl.out (by omega))
  have HC := Lib.hid (show (atFst 59 (labT l)).length ≤ 1300 ∧ (atSnd 59 (labT l)).length ≤ 1300 by
    obtain ⟨h1, h2⟩ := text_cut l Hl.out
    rw [h1, h2, List.length_append, List.length_append]
    simp only [List.length_cons, List.length_nil]
    omega)
  have hct := Lib.hid (fun W (h : LabIs W (.agg #[.slice q5 n5 c5, .slice r5 m5 d5]) l) => Lbl.Text_any _ l W h fl (by omega) (by omega))
  have HSS := Lib.hid (same_self l)
  obtain ⟨T, hTT⟩ : ∃ T, labT l = T := ⟨_, rfl⟩
  rw [hTT] at HP HC hct hTl
  have HSZT := Lib.hid (mk_size T)
  have d4 : decide ((T.length : Int) ≤ 4096) = true := by simp; omega
  have d4' : decide (((⟨T.toArray⟩ : ByteArray).size : Int) ≤ 4096) = true := by rewrite [HSZT.out]; exact d4
  clear hTT hT
  have con := hct.out X3 L5.2
  have x50 : (X2.alloc (.cells #[.slice q5 n5 c5, .slice r5 m5 d5] 28)).cell? ⟨b5, 0, none⟩ = some (.slice q5 n5 c5) := by rw [HX3.out]; exact L5.c0
  have x51 : (X2.alloc (.cells #[.slice q5 n5 c5, .slice r5 m5 d5] 28)).cell? ⟨b5, 1, none⟩ = some (.slice r5 m5 d5) := by rw [HX3.out]; exact L5.c1
  go_wp2_with fail
  rewrite [HB5.out, HX3.out]
  go_wp2_with fail
  refine con.mono ?_
  rintro e X4 ⟨rfl, hb⟩
  have B_4 := B_3.trans (hb.mono B_3.size)
  replace L5 := L5.on hb
  clear con hb B_3 x50 x51 HX3 HB5
  obtain ⟨cc, X5, k0, hby, hb, -⟩ := conv_new X4 T (by omega)
  have B_5 := B_4.trans (hb.mono B_4.size)
  replace L5 := L5.on hb
  have con := Lbl.Parse_any (some ⟨X4.heap.size, 0, none⟩) T.length cc T X5 hby (by omega) (fun _ => HC.out) (HG.out.on B_5)
  rewrite [HP.out] at con
  clear hby hb B_4 HC
  go_wp2_with fail
  (try rw [k0])
  go_wp2_with fail
  refine con.mono ?_
  rintro e X6 ⟨q6, n6, c6, r6, m6, d6, rfl, f1, f2, _, _, hb⟩
  have s6 : LabIs X6 (.agg #[.slice q6 n6 c6, .slice r6 m6 d6]) l := ⟨_, _, _, _, _, _, rfl, f1, f2⟩
  have B_6 := B_5.trans (hb.mono B_5.size)
  replace L5 := L5.on hb
  clear con hb k0 B_5 HP f1 f2
  unfold labE
  obtain ⟨b6, hb6⟩ : ∃ b, X6.heap.size = b := ⟨_, rfl⟩
  obtain ⟨X7, hX7⟩ : ∃ Z, X6.alloc (.cells #[.slice q6 n6 c6, .slice r6 m6 d6] 28) = Z := ⟨_, rfl⟩
  have L6 : LX b6 q6 n6 c6 r6 m6 d6 l X7 := by rw [← hX7, ← hb6]; exact LX.new s6
  have hb : Below X6.heap.size X6 X7 := by rw [← hX7]; exact below_alloc _
  have B_7 := B_6.trans (hb.mono B_6.size)
  replace L5 := L5.on hb
  have HX7 := Lib.hid hX7
  have HB6 := Lib.hid hb6
  clear hX7 hb6 s6 hb B_6
  have con := hct.out X7 L5.2
  have x50 : (X6.alloc (.cells #[.slice q6 n6 c6, .slice r6 m6 d6] 28)).cell? ⟨b5, 0, none⟩ = some (.slice q5 n5 c5) := by rw [HX7.out]; exact L5.c0
  have x51 : (X6.alloc (.cells #[.slice q6 n6 c6, .slice r6 m6 d6] 28)).cell? ⟨b5, 1, none⟩ = some (.slice r5 m5 d5) := by rw [HX7.out]; exact L5.c1
  go_wp2_with fail
  rewrite [HB6.out, HX7.out]
  go_wp2_with fail
  refine con.mono ?_
  rintro e X8 ⟨rfl, hb⟩
  have B_8 := B_7.trans (hb.mono B_7.size)
  replace L5 := L5.on hb
  replace L6 := L6.on hb
  clear con hb B_7 x50 x51 HX7 HB6 hct
  have con := Lbl.Same_any _ _ l l X8 L6.2 L5.2 fl fl
  rewrite [HSS.out] at con
  have x50 := L5.c0
  have x51 := L5.c1
  have x60 := L6.c0
  have x61 := L6.c1
  go_wp2_with fail
  refine con.mono ?_
  rintro e X9 ⟨rfl, hb⟩
  have B_9 := B_8.trans (hb.mono B_8.size)
  clear con hb B_8 x50 x51 x60 x61 L5 L6 d4 d4' HSZT HSS fl Hl
  have con := Lbl.Of_any p X9 hpl (HG.out.on B_9)
  go_wp2_with fail
  refine con.mono ?_
  rintro e X10 ⟨q8, n8, c8, r8, m8, d8, rfl, f1, f2, _, _, hb⟩
  have s8 : LabIs X10 (.agg #[.slice q8 n8 c8, .slice r8 m8 d8]) (labV (oneL p)) := ⟨_, _, _, _, _, _, rfl, f1, f2⟩
  have B_10 := B_9.trans (hb.mono B_9.size)
  clear con hb B_9 f1 f2
  obtain ⟨b8, hb8⟩ : ∃ b, X10.heap.size = b := ⟨_, rfl⟩
  obtain ⟨X11, hX11⟩ : ∃ Z, X10.alloc (.cells #[.slice q8 n8 c8, .slice r8 m8 d8] 28) = Z := ⟨_, rfl⟩
  have L8 : LX b8 q8 n8 c8 r8 m8 d8 (labV (oneL p)) X11 := by rw [← hX11, ← hb8]; exact LX.new s8
  have hb : Below X10.heap.size X10 X11 := by rw [← hX11]; exact below_alloc _
  have B_11 := B_10.trans (hb.mono B_10.size)
  have HX11 := Lib.hid hX11
  have HB8 := Lib.hid hb8
  clear hX11 hb8 s8 hb B_10
  rcases single_cases1 p with ⟨n, _, hsr, hn⟩ | ⟨_, hsr, hk⟩
  · have ho : oneL p = .inl n := by unfold oneL; rw [hsr]
    rewrite [ho] at L8
    rewrite [ho]
    replace L8 : LX b8 q8 n8 c8 r8 m8 d8 ⟨[], []⟩ X11 := L8
    have e2 : ((n : Int) != 0) = true := by rw [bne_iff_ne]; exact hn
    clear ho hsr hn
    unfold labE
    go_upto_region 9 with fail
    rewrite [HB8.out, HX11.out]
    clear HB8 HX11
    refine pregion_any (fun X => X.cell? ⟨b8, 0, none⟩ = some (.slice q8 n8 c8) ∧ X.cell? ⟨b8, 1, none⟩ = some (.slice r8 m8 d8)) (by kernel_rfl) ?_
    have hb : Below X11.heap.size X11 X11.drew := ⟨rfl, rfl, rfl, Nat.le_refl _, fun _ _ => rfl⟩
    obtain ⟨Pr1, hXd⟩ : ∃ Z, X11.drew = Z := ⟨_, rfl⟩
    rw [hXd] at hb ⊢
    have DP1 := B_11.trans (hb.mono B_11.size)
    replace L8 := L8.on hb
    clear hb hXd
    refine wpAnyH_take (i := 0) (v := (.agg #[.slice q8 n8 c8, .slice r8 m8 d8])) rfl (by kernel_rfl) (by kernel_rfl) (by kernel_rfl) (fun _ _ _ h => h) (.inl ⟨by kernel_rfl, ?_⟩) ⟨L8.c0, L8.c1⟩ ?_
    · rintro w ⟨h1, h2⟩; go_simp <;> omega
    have con := Open_any Pr1
    refine plist #[true, false, false, false] (by kernel_rfl) ?_
    refine pone 1 (by kernel_rfl) rfl fun K hK => ?_
    go_simp
    refine con.mono ?_
    rintro e Pr2 ⟨v1, rfl, N1, hb⟩
    have DP2 := DP1.trans (hb.mono DP1.size)
    replace L8 := L8.on hb
    clear hb con DP1
    refine hK _ _ ⟨L8.c0, L8.c1⟩ ?_
    clear hK K
    have con := Lbl.Same_any _ _ ⟨[], []⟩ ⟨[], []⟩ Pr2 L8.2 N1 open_few open_few
    rewrite [show sameB ⟨[], []⟩ ⟨[], []⟩ = true from rfl] at con
    refine plist #[true, true, false, false] (by kernel_rfl) ?_
    refine pone 2 (by kernel_rfl) rfl fun K hK => ?_
    go_simp
    refine con.mono ?_
    rintro e Pr3 ⟨rfl, hb⟩
    have DP3 := DP2.trans (hb.mono DP2.size)
    replace L8 := L8.on hb
    replace N1 := N1.below hb
    clear hb con DP2
    refine hK _ _ ⟨L8.c0, L8.c1⟩ ?_
    clear hK K
    refine plist #[true, true, true, false] (by kernel_rfl) ?_
    refine pone 3 (by kernel_rfl) rfl fun K hK => ?_
    go_simp
    refine hK _ _ ⟨L8.c0, L8.c1⟩ ?_
    clear hK K
    refine pdone (by kernel_rfl) ?_ _
    go_wp2
    go_ret
    exact ⟨by first | rfl | simp | decide, DP3⟩
  · have ho : oneL p = .inr ⟨[[p]], []⟩ := by unfold oneL; rw [hsr]
    rewrite [ho] at L8
    rewrite [ho]
    replace L8 : LX b8 q8 n8 c8 r8 m8 d8 ⟨[[p]], []⟩ X11 := L8
    have HFT := Lib.hid (one_frmT p)
    have fp : Few ⟨[[p]], []⟩ := ⟨by simp, by simp⟩
    clear ho hsr hk
    unfold labE
    go_upto_region 10 with fail
    rewrite [HB8.out, HX11.out]
    clear HB8 HX11
    have e1 : (p == p) = true := by simp
    refine pregion_any (fun X => X.cell? ⟨b8, 0, none⟩ = some (.slice q8 n8 c8) ∧ X.cell? ⟨b8, 1, none⟩ = some (.slice r8 m8 d8)) (by kernel_rfl) ?_
    have hb : Below X11.heap.size X11 X11.drew := ⟨rfl, rfl, rfl, Nat.le_refl _, fun _ _ => rfl⟩
    obtain ⟨X12, hXd⟩ : ∃ Z, X11.drew = Z := ⟨_, rfl⟩
    rw [hXd] at hb ⊢
    have B_12 := B_11.trans (hb.mono B_11.size)
    replace L8 := L8.on hb
    clear hb hXd B_11
    refine wpAnyH_take (i := 0) (v := (.pointer (some ⟨b8, 0, none⟩))) rfl (by kernel_rfl) (by kernel_rfl) (by kernel_rfl) (fun _ _ _ h => h) (.inl ⟨by kernel_rfl, ?_⟩) ⟨L8.c0, L8.c1⟩ ?_
    · rintro w ⟨h1, h2⟩; go_simp <;> omega
    refine plist #[true, false, false, false, false, false, false, false, false, false, false, false, false, false, false, false, false] (by kernel_rfl) ?_
    refine wpAnyH_take (i := 1) (v := (.agg #[.slice q8 n8 c8])) rfl (by kernel_rfl) (by kernel_rfl) (by kernel_rfl) (fun _ _ _ h => h) (.inl ⟨by kernel_rfl, ?_⟩) ⟨L8.c0, L8.c1⟩ ?_
    · rintro w ⟨h1, h2⟩; go_simp <;> omega
    refine plist #[true, true, false, false, false, false, false, false, false, false, false, false, false, false, false, false, false] (by kernel_rfl) ?_
    refine wpAnyH_take (i := 3) (v := (.string ⟨p.toArray⟩)) rfl (by kernel_rfl) (by kernel_rfl) (by kernel_rfl) (fun _ _ _ h => h) (.inl ⟨by kernel_rfl, ?_⟩) ⟨L8.c0, L8.c1⟩ ?_
    · rintro w ⟨h1, h2⟩; go_simp <;> omega
    refine plist #[true, true, false, true, false, false, false, false, false, false, false, false, false, false, false, false, false] (by kernel_rfl) ?_
    have con := Frm.Text_any _ [[p]] X12 (lxfrm L8).1 (by simp) (by rw [HFT.out]; omega)
    rewrite [HFT.out] at con
    refine pone 2 (by kernel_rfl) rfl fun K hK => ?_
    go_simp
    refine con.mono ?_
    rintro e X13 ⟨rfl, hb⟩
    have B_13 := B_12.trans (hb.mono B_12.size)
    replace L8 := L8.on hb
    clear con hb B_12
    refine hK _ _ ⟨L8.c0, L8.c1⟩ ?_
    clear hK K
    refine plist #[true, true, true, true, false, false, false, false, false, false, false, false, false, false, false, false, false] (by kernel_rfl) ?_
    refine pone 4 (by kernel_rfl) rfl fun K hK => ?_
    go_simp
    refine hK _ _ ⟨L8.c0, L8.c1⟩ ?_
    clear hK K
    refine plist #[true, true, true, true, true, false, false, false, false, false, false, false, false, false, false, false, false] (by kernel_rfl) ?_
    refine pone 5 (by kernel_rfl) rfl fun K hK => ?_
    go_simp
    refine hK _ _ ⟨L8.c0, L8.c1⟩ ?_
    clear hK K
    refine plist #[true, true, true, true, true, true, false, false, false, false, false, false, false, false, false, false, false] (by kernel_rfl) ?_
    refine wpAnyH_take (i := 6) (v := (.pointer (some ⟨b8, 1, none⟩))) rfl (by kernel_rfl) (by kernel_rfl) (by kernel_rfl) (fun _ _ _ h => h) (.inl ⟨by kernel_rfl, ?_⟩) ⟨L8.c0, L8.c1⟩ ?_
    · rintro w ⟨h1, h2⟩; go_simp <;> omega
    refine plist #[true, true, true, true, true, true, true, false, false, false, false, false, false, false, false, false, false] (by kernel_rfl) ?_
    refine wpAnyH_take (i := 7) (v := (.agg #[.slice r8 m8 d8])) rfl (by kernel_rfl) (by kernel_rfl) (by kernel_rfl) (fun _ _ _ h => h) (.inl ⟨by kernel_rfl, ?_⟩) ⟨L8.c0, L8.c1⟩ ?_
    · rintro w ⟨h1, h2⟩; go_simp <;> omega
    refine plist #[true, true, true, true, true, true, true, true, false, false, false, false, false, false, false, false, false] (by kernel_rfl) ?_
    have con := Frm.Len_any _ [] X13 (lxfrm L8).2
    refine pone 8 (by kernel_rfl) rfl fun K hK => ?_
    go_simp
    refine con.mono ?_
    rintro e X14 ⟨rfl, hb⟩
    have B_14 := B_13.trans (hb.mono B_13.size)
    replace L8 := L8.on hb
    clear con hb B_13
    refine hK _ _ ⟨L8.c0, L8.c1⟩ ?_
    clear hK K
    refine plist #[true, true, true, true, true, true, true, true, true, false, false, false, false, false, false, false, false] (by kernel_rfl) ?_
    refine pone 9 (by kernel_rfl) rfl fun K hK => ?_
    go_simp
    refine hK _ _ ⟨L8.c0, L8.c1⟩ ?_
    clear hK K
    refine plist #[true, true, true, true, true, true, true, true, true, true, false, false, false, false, false, false, false] (by kernel_rfl) ?_
    refine pone 10 (by kernel_rfl) rfl fun K hK => ?_
    go_simp
    refine hK _ _ ⟨L8.c0, L8.c1⟩ ?_
    clear hK K
    refine plist #[true, true, true, true, true, true, true, true, true, true, true, false, false, false, false, false, false] (by kernel_rfl) ?_
    refine pone 11 (by kernel_rfl) rfl fun K hK => ?_
    go_simp
    refine hK _ _ ⟨L8.c0, L8.c1⟩ ?_
    clear hK K
    refine plist #[true, true, true, true, true, true, true, true, true, true, true, true, false, false, false, false, false] (by kernel_rfl) ?_
    refine wpAnyH_take (i := 13) (v := (.agg #[.slice q8 n8 c8, .slice r8 m8 d8])) rfl (by kernel_rfl) (by kernel_rfl) (by kernel_rfl) (fun _ _ _ h => h) (.inl ⟨by kernel_rfl, ?_⟩) ⟨L8.c0, L8.c1⟩ ?_
    · rintro w ⟨h1, h2⟩; go_simp <;> omega
    refine plist #[true, true, true, true, true, true, true, true, true, true, true, true, false, true, false, false, false] (by kernel_rfl) ?_
    have con := Open_any X14
    refine pone 12 (by kernel_rfl) rfl fun K hK => ?_
    go_simp
    refine con.mono ?_
    rintro e X15 ⟨v15, rfl, N15, hb⟩
    have B_15 := B_14.trans (hb.mono B_14.size)
    replace L8 := L8.on hb
    clear con hb B_14
    refine hK _ _ ⟨L8.c0, L8.c1⟩ ?_
    clear hK K
    refine plist #[true, true, true, true, true, true, true, true, true, true, true, true, true, true, false, false, false] (by kernel_rfl) ?_
    have con := Lbl.Flows_any _ _ ⟨[], []⟩ ⟨[[p]], []⟩ X15 N15 L8.2 open_few fp
    rewrite [show flowsB ⟨[], []⟩ ⟨[[p]], []⟩ = true from rfl] at con
    refine pone 14 (by kernel_rfl) rfl fun K hK => ?_
    go_simp
    refine con.mono ?_
    rintro e X16 ⟨rfl, hb⟩
    have B_16 := B_15.trans (hb.mono B_15.size)
    replace L8 := L8.on hb
    clear con hb B_15
    refine hK _ _ ⟨L8.c0, L8.c1⟩ ?_
    clear hK K
    refine plist #[true, true, true, true, true, true, true, true, true, true, true, true, true, true, true, false, false] (by kernel_rfl) ?_
    refine pone 15 (by kernel_rfl) rfl fun K hK => ?_
    go_simp
    refine hK _ _ ⟨L8.c0, L8.c1⟩ ?_
    clear hK K
    refine plist #[true, true, true, true, true, true, true, true, true, true, true, true, true, true, true, true, false] (by kernel_rfl) ?_
    refine pone 16 (by kernel_rfl) rfl fun K hK => ?_
    go_simp
    refine hK _ _ ⟨L8.c0, L8.c1⟩ ?_
    clear hK K
    refine pdone (by kernel_rfl) ?_ _
    go_wp2
    go_ret
    exact ⟨by first | rfl | simp | decide, B_16⟩

theorem proved : Rows.LabelBackCardSaid := card walk
end Go.Proofs.YtdlofjcblcpgpaaGreatDoor.labelBack
