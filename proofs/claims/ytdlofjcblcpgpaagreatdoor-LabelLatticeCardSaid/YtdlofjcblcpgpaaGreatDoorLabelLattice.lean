/- LabelLattice: the law returns true at whatever input, and writes nothing that was there: its tied card. Conditions: none. -/
import Derived.Test.YtdlofjcblcpgpaaGreatDoorBaseE
import Derived.Deep.DeepCutAuto
namespace Go.Proofs.YtdlofjcblcpgpaaGreatDoor.labelLattice
open Go.RowKit Go.Shelf Url Org Frm Cls Lbl
attribute [local go_sem] Oper.semAt_some
set_option linter.unusedVariables false

theorem row_by {w : World} {a : Option Addr} {len cap : Nat} {zs : List Int} (h : IsRow .u8 w a len cap zs) : ∃ bs : List UInt8, By w (.slice a len cap) bs := by
  rcases h with ⟨rfl, rfl, rfl, rfl⟩ | ⟨x, rfl, h1, h2, h3, h4, h5⟩
  · exact ⟨[], by_nil w⟩
  · have hz : ∀ i, i < len → (Lib.numsL (Lib.bytesOf (zs.take len))).getD i 0 = zs.getD i 0 := fun i hi => by
      have hi' : i < zs.length := by omega
      have hw := bounds_u8 (h5 _ (List.getElem_mem hi'))
      have : (Lib.bytesOf (zs.take len)).getD i 0 = UInt8.ofNat (zs[i]).toNat := by
        simp [Lib.bytesOf, List.getD, hi, List.getElem?_eq_getElem hi']
      rw [numsL_getD _ _ (by simp [Lib.bytesOf]; omega), this, List.getD, List.getElem?_eq_getElem hi']
      simp only [Option.getD_some, UInt8.toNat_ofNat']
      omega
    refine ⟨Lib.bytesOf (zs.take len), By.of (by simp [Lib.bytesOf]; omega) h1 h2 (fun h => by cases h) (Lib.BytesIn.of_cells fun i hi => ?_)⟩
    rw [hz i hi]
    exact h4 i (by omega)

set_option maxRecDepth 100000 in
set_option maxHeartbeats 32000000 in
theorem walk : Walks := by
  intro a0 len0 cap0 z0 a1 len1 cap1 z1 a2 len2 cap2 z2 w w0 w1 w2 hG
  obtain ⟨ta, ha⟩ := row_by w0
  obtain ⟨tb, hb'⟩ := row_by w1
  obtain ⟨tc, hc'⟩ := row_by w2
  clear w0 w1 w2
  have con := lives_any w hG
  have HG := Lib.hid hG
  clear hG
  go_enter Tryz.func5, Tryz.ntmps5
  go_wp2_with fail
  refine con.mono ?_
  rintro e X1 ⟨rfl, B_1⟩
  clear con
  replace ha := ha.on B_1
  replace hb' := hb'.on B_1
  replace hc' := hc'.on B_1
  have con := lawOf_any a0 len0 cap0 ta X1 ha (HG.out.on B_1)
  have Hl := Lib.hid (parse_lab (ta.take 400))
  generalize labV (parseL (ta.take 400)) = l at con Hl
  clear ha
  go_wp2_with fail
  refine con.mono ?_
  rintro e X2 ⟨q7, n7, c7, r7, m7, d7, rfl, s7, hb⟩
  have B_2 := B_1.trans (hb.mono B_1.size)
  replace hb' := hb'.on hb
  replace hc' := hc'.on hb
  clear con hb B_1
  have con := lawOf_any a1 len1 cap1 tb X2 hb' (HG.out.on B_2)
  have Ho := Lib.hid (parse_lab (tb.take 400))
  generalize labV (parseL (tb.take 400)) = o at con Ho
  clear hb'
  go_wp2_with fail
  refine con.mono ?_
  rintro e X3 ⟨q8, n8, c8, r8, m8, d8, rfl, s8, hb⟩
  have B_3 := B_2.trans (hb.mono B_2.size)
  replace hc' := hc'.on hb
  replace s7 := s7.below hb
  clear con hb B_2
  have con := lawOf_any a2 len2 cap2 tc X3 hc' (HG.out.on B_3)
  have Hm := Lib.hid (parse_lab (tc.take 400))
  generalize labV (parseL (tc.take 400)) = m at con Hm
  clear hc'
  go_wp2_with fail
  refine con.mono ?_
  rintro e X4 ⟨q9, n9, c9, r9, m9, d9, rfl, s9, hb⟩
  have B_4 := B_3.trans (hb.mono B_3.size)
  replace s7 := s7.below hb
  replace s8 := s8.below hb
  clear con hb B_3
  obtain ⟨b7, hb7⟩ : ∃ b, X4.heap.size = b := ⟨_, rfl⟩
  obtain ⟨X5, hX5⟩ : ∃ Z, X4.alloc (.cells #[.slice q7 n7 c7, .slice r7 m7 d7] 28) = Z := ⟨_, rfl⟩
  have hb : Below X4.heap.size X4 X5 := by rw [← hX5]; exact below_alloc _
  have L7 : LX b7 q7 n7 c7 r7 m7 d7 l X5 := by rw [← hX5, ← hb7]; exact LX.new s7
  have hz5 : X5.heap.size = b7 + 1 := by rw [← hX5, ← hb7]; simp
  have B_5 := B_4.trans (hb.mono B_4.size)
  replace s8 := s8.below hb
  replace s9 := s9.below hb
  obtain ⟨X6, hX6⟩ : ∃ Z, X5.alloc (.cells #[.slice q8 n8 c8, .slice r8 m8 d8] 28) = Z := ⟨_, rfl⟩
  have hb : Below X5.heap.size X5 X6 := by rw [← hX6]; exact below_alloc _
  have L8 : LX (b7 + 1) q8 n8 c8 r8 m8 d8 o X6 := by rw [← hX6, ← hz5]; exact LX.new s8
  have hz6 : X6.heap.size = b7 + 1 + 1 := by rw [← hX6]; simp [hz5]
  have B_6 := B_5.trans (hb.mono B_5.size)
  replace s9 := s9.below hb
  replace L7 := L7.on hb
  obtain ⟨X7, hX7⟩ : ∃ Z, X6.alloc (.cells #[.slice q9 n9 c9, .slice r9 m9 d9] 28) = Z := ⟨_, rfl⟩
  have hb : Below X6.heap.size X6 X7 := by rw [← hX7]; exact below_alloc _
  have L9 : LX (b7 + 1 + 1) q9 n9 c9 r9 m9 d9 m X7 := by rw [← hX7, ← hz6]; exact LX.new s9
  have B_7 := B_6.trans (hb.mono B_6.size)
  replace L7 := L7.on hb
  replace L8 := L8.on hb
  have HX5 := Lib.hid hX5
  have HX6 := Lib.hid hX6
  have HX7 := Lib.hid hX7
  have HB7 := Lib.hid hb7
  clear hX5 hX6 hX7 hb7 hz5 hz6 s7 s8 s9 hb B_4 B_5 B_6
  have fl := lok_few Hl.out
  have fo := lok_few Ho.out
  have fm := lok_few Hm.out
  have HLL := Lib.hid (flows_refl l)
  have HT := Lib.hid (flows_trans l o m)
  have HS := Lib.hid (same_flows l o Hl.out Ho.out)
  have HJ := Lib.hid (fun j (h : joinR l o = .inr j) => join_law l o j m Hl.out Ho.out h)
  have HM := Lib.hid (fun j (h : meetR l o = .inr j) => meet_law l o j m Hl.out Ho.out h)
  have HJE := Lib.hid (join_err l o)
  have HME := Lib.hid (meet_err l o)
  have HJF := Lib.hid (join_few l o Hl.out Ho.out)
  have HMF := Lib.hid (meet_few l o Hl.out Ho.out)
  have HJC := Lib.hid (fun X (h1 : LabIs X _ l) (h2 : LabIs X _ o) => Join_any (.agg #[.slice q7 n7 c7, .slice r7 m7 d7]) (.agg #[.slice q8 n8 c8, .slice r8 m8 d8]) l o X h1 h2 fl fo)
  have HMC := Lib.hid (fun X (h1 : LabIs X _ l) (h2 : LabIs X _ o) => Meet_any (.agg #[.slice q7 n7 c7, .slice r7 m7 d7]) (.agg #[.slice q8 n8 c8, .slice r8 m8 d8]) l o X h1 h2 fl fo)
  have HP1 := Lib.hid (pure_flows l)
  have HP2 := Lib.hid (flows_shut l)
  obtain ⟨FA, hFA⟩ : ∃ b, flowsB l o = b := ⟨_, rfl⟩
  obtain ⟨FB, hFB⟩ : ∃ b, flowsB o m = b := ⟨_, rfl⟩
  obtain ⟨FC, hFC⟩ : ∃ b, flowsB o l = b := ⟨_, rfl⟩
  obtain ⟨FD, hFD⟩ : ∃ b, flowsB l m = b := ⟨_, rfl⟩
  obtain ⟨FE, hFE⟩ : ∃ b, flowsB m l = b := ⟨_, rfl⟩
  obtain ⟨FF, hFF⟩ : ∃ b, flowsB m o = b := ⟨_, rfl⟩
  have HFA := Lib.hid hFA
  have HFB := Lib.hid hFB
  have HFC := Lib.hid hFC
  have HFD := Lib.hid hFD
  have HFE := Lib.hid hFE
  have HFF := Lib.hid hFF
  rw [hFA, hFC] at HS
  rw [hFD, hFB] at HJ
  rw [hFE, hFF] at HM
  obtain ⟨rj, hrj⟩ : ∃ r, joinR l o = r := ⟨_, rfl⟩
  obtain ⟨rm, hrm⟩ : ∃ r, meetR l o = r := ⟨_, rfl⟩
  rw [hrj] at HJ HJE HJF HJC
  rw [hrm] at HM HME HMF HMC
  clear hFA hFB hFC hFD hFE hFF hrj hrm Hl Ho Hm
  go_upto_region 4 with fail
  rewrite [HB7.out, HX5.out, HX6.out, HX7.out]
  clear HX5 HX6 HX7 HB7
  go_cut [55] from 22 to 55 (fun s55 X => s55 = .bool false ∧ Below X7.heap.size X7 X)
  case first =>
    have D0 : Below X7.heap.size X7 X7 := Below.refl _ _
    refine pregion_any (fun X => X.cell? ⟨b7, 0, none⟩ = some (.slice q7 n7 c7) ∧ X.cell? ⟨b7, 1, none⟩ = some (.slice r7 m7 d7) ∧ X.cell? ⟨b7 + 1, 0, none⟩ = some (.slice q8 n8 c8) ∧ X.cell? ⟨b7 + 1, 1, none⟩ = some (.slice r8 m8 d8) ∧ X.cell? ⟨b7 + 1 + 1, 0, none⟩ = some (.slice q9 n9 c9) ∧ X.cell? ⟨b7 + 1 + 1, 1, none⟩ = some (.slice r9 m9 d9)) (by kernel_rfl) ?_
    have hb : Below X7.heap.size X7 X7.drew := ⟨rfl, rfl, rfl, Nat.le_refl _, fun _ _ => rfl⟩
    obtain ⟨Pr1, hXd⟩ : ∃ Z, X7.drew = Z := ⟨_, rfl⟩
    rw [hXd] at hb ⊢
    have DP1 := D0.trans (hb.mono D0.size)
    replace L7 := L7.on hb
    replace L8 := L8.on hb
    replace L9 := L9.on hb
    clear hb hXd
    refine wpAnyH_take (i := 0) (v := (.agg #[.slice q7 n7 c7, .slice r7 m7 d7])) rfl (by kernel_rfl) (by kernel_rfl) (by kernel_rfl) (fun _ _ _ h => h) (.inl ⟨by kernel_rfl, ?_⟩) ⟨L7.c0, L7.c1, L8.c0, L8.c1, L9.c0, L9.c1⟩ ?_
    · rintro w ⟨h1, h2, h3, h4, h5, h6⟩; go_simp <;> omega
    refine plist #[true, false, false, false, false, false, false, false, false, false, false, false, false, false, false, false, false, false, false, false, false, false, false, false, false, false, false, false, false, false, false, false, false, false] (by kernel_rfl) ?_
    refine wpAnyH_take (i := 1) (v := (.agg #[.slice q7 n7 c7, .slice r7 m7 d7])) rfl (by kernel_rfl) (by kernel_rfl) (by kernel_rfl) (fun _ _ _ h => h) (.inl ⟨by kernel_rfl, ?_⟩) ⟨L7.c0, L7.c1, L8.c0, L8.c1, L9.c0, L9.c1⟩ ?_
    · rintro w ⟨h1, h2, h3, h4, h5, h6⟩; go_simp <;> omega
    have con := Lbl.Flows_any _ _ l l Pr1 L7.2 L7.2 fl fl
    rewrite [HLL.out] at con
    refine plist #[true, true, false, false, false, false, false, false, false, false, false, false, false, false, false, false, false, false, false, false, false, false, false, false, false, false, false, false, false, false, false, false, false, false] (by kernel_rfl) ?_
    refine pone 2 (by kernel_rfl) rfl fun K hK => ?_
    go_simp
    refine con.mono ?_
    rintro e Pr2 ⟨rfl, hb⟩
    have DP2 := DP1.trans (hb.mono DP1.size)
    replace L7 := L7.on hb
    replace L8 := L8.on hb
    replace L9 := L9.on hb
    clear hb con DP1
    refine hK _ _ ⟨L7.c0, L7.c1, L8.c0, L8.c1, L9.c0, L9.c1⟩ ?_
    clear hK K
    refine plist #[true, true, true, false, false, false, false, false, false, false, false, false, false, false, false, false, false, false, false, false, false, false, false, false, false, false, false, false, false, false, false, false, false, false] (by kernel_rfl) ?_
    refine pone 3 (by kernel_rfl) rfl fun K hK => ?_
    go_simp
    refine hK _ _ ⟨L7.c0, L7.c1, L8.c0, L8.c1, L9.c0, L9.c1⟩ ?_
    clear hK K
    refine plist #[true, true, true, true, false, false, false, false, false, false, false, false, false, false, false, false, false, false, false, false, false, false, false, false, false, false, false, false, false, false, false, false, false, false] (by kernel_rfl) ?_
    refine pone 4 (by kernel_rfl) rfl fun K hK => ?_
    go_simp
    refine hK _ _ ⟨L7.c0, L7.c1, L8.c0, L8.c1, L9.c0, L9.c1⟩ ?_
    clear hK K
    refine plist #[true, true, true, true, true, false, false, false, false, false, false, false, false, false, false, false, false, false, false, false, false, false, false, false, false, false, false, false, false, false, false, false, false, false] (by kernel_rfl) ?_
    refine wpAnyH_take (i := 5) (v := (.agg #[.slice q7 n7 c7, .slice r7 m7 d7])) rfl (by kernel_rfl) (by kernel_rfl) (by kernel_rfl) (fun _ _ _ h => h) (.inl ⟨by kernel_rfl, ?_⟩) ⟨L7.c0, L7.c1, L8.c0, L8.c1, L9.c0, L9.c1⟩ ?_
    · rintro w ⟨h1, h2, h3, h4, h5, h6⟩; go_simp <;> omega
    refine plist #[true, true, true, true, true, true, false, false, false, false, false, false, false, false, false, false, false, false, false, false, false, false, false, false, false, false, false, false, false, false, false, false, false, false] (by kernel_rfl) ?_
    refine wpAnyH_take (i := 6) (v := (.agg #[.slice q8 n8 c8, .slice r8 m8 d8])) rfl (by kernel_rfl) (by kernel_rfl) (by kernel_rfl) (fun _ _ _ h => h) (.inl ⟨by kernel_rfl, ?_⟩) ⟨L7.c0, L7.c1, L8.c0, L8.c1, L9.c0, L9.c1⟩ ?_
    · rintro w ⟨h1, h2, h3, h4, h5, h6⟩; go_simp <;> omega
    have con := Lbl.Flows_any _ _ l o Pr2 L7.2 L8.2 fl fo
    rewrite [HFA.out] at con
    cases FA with
    | false =>
        refine plist #[true, true, true, true, true, true, true, false, false, false, false, false, false, false, false, false, false, false, false, false, false, false, false, false, false, false, false, false, false, false, false, false, false, false] (by kernel_rfl) ?_
        refine pone 7 (by kernel_rfl) rfl fun K hK => ?_
        go_simp
        refine con.mono ?_
        rintro e Pr3 ⟨rfl, hb⟩
        have DP3 := DP2.trans (hb.mono DP2.size)
        replace L7 := L7.on hb
        replace L8 := L8.on hb
        replace L9 := L9.on hb
        clear hb con DP2
        refine hK _ _ ⟨L7.c0, L7.c1, L8.c0, L8.c1, L9.c0, L9.c1⟩ ?_
        clear hK K
        refine plist #[true, true, true, true, true, true, true, true, false, false, false, false, false, false, false, false, false, false, false, false, false, false, false, false, false, false, false, false, false, false, false, false, false, false] (by kernel_rfl) ?_
        refine pone 8 (by kernel_rfl) rfl fun K hK => ?_
        go_simp
        refine hK _ _ ⟨L7.c0, L7.c1, L8.c0, L8.c1, L9.c0, L9.c1⟩ ?_
        clear hK K
        refine plist #[true, true, true, true, true, true, true, true, true, false, false, false, false, false, false, false, false, false, false, false, false, false, false, false, false, false, false, false, false, false, false, false, false, false] (by kernel_rfl) ?_
        refine wpAnyH_take (i := 9) (v := (undef)) rfl (by kernel_rfl) (by kernel_rfl) (by kernel_rfl) (fun _ _ _ h => h) (.inr ⟨by kernel_rfl, rfl⟩) ⟨L7.c0, L7.c1, L8.c0, L8.c1, L9.c0, L9.c1⟩ ?_
        refine plist #[true, true, true, true, true, true, true, true, true, true, false, false, false, false, false, false, false, false, false, false, false, false, false, false, false, false, false, false, false, false, false, false, false, false] (by kernel_rfl) ?_
        refine pone 10 (by kernel_rfl) rfl fun K hK => ?_
        go_simp
        refine hK _ _ ⟨L7.c0, L7.c1, L8.c0, L8.c1, L9.c0, L9.c1⟩ ?_
        clear hK K
        refine plist #[true, true, true, true, true, true, true, true, true, true, true, false, false, false, false, false, false, false, false, false, false, false, false, false, false, false, false, false, false, false, false, false, false, false] (by kernel_rfl) ?_
        refine pone 11 (by kernel_rfl) rfl fun K hK => ?_
        go_simp
        refine hK _ _ ⟨L7.c0, L7.c1, L8.c0, L8.c1, L9.c0, L9.c1⟩ ?_
        clear hK K
        refine plist #[true, true, true, true, true, true, true, true, true, true, true, true, false, false, false, false, false, false, false, false, false, false, false, false, false, false, false, false, false, false, false, false, false, false] (by kernel_rfl) ?_
        refine pone 12 (by kernel_rfl) rfl fun K hK => ?_
        go_simp
        refine hK _ _ ⟨L7.c0, L7.c1, L8.c0, L8.c1, L9.c0, L9.c1⟩ ?_
        clear hK K
        refine plist #[true, true, true, true, true, true, true, true, true, true, true, true, true, false, false, false, false, false, false, false, false, false, false, false, false, false, false, false, false, false, false, false, false, false] (by kernel_rfl) ?_
        refine pone 13 (by kernel_rfl) rfl fun K hK => ?_
        go_simp
        refine hK _ _ ⟨L7.c0, L7.c1, L8.c0, L8.c1, L9.c0, L9.c1⟩ ?_
        clear hK K
        refine plist #[true, true, true, true, true, true, true, true, true, true, true, true, true, true, false, false, false, false, false, false, false, false, false, false, false, false, false, false, false, false, false, false, false, false] (by kernel_rfl) ?_
        refine wpAnyH_take (i := 14) (v := (undef)) rfl (by kernel_rfl) (by kernel_rfl) (by kernel_rfl) (fun _ _ _ h => h) (.inr ⟨by kernel_rfl, rfl⟩) ⟨L7.c0, L7.c1, L8.c0, L8.c1, L9.c0, L9.c1⟩ ?_
        refine plist #[true, true, true, true, true, true, true, true, true, true, true, true, true, true, true, false, false, false, false, false, false, false, false, false, false, false, false, false, false, false, false, false, false, false] (by kernel_rfl) ?_
        refine pone 15 (by kernel_rfl) rfl fun K hK => ?_
        go_simp
        refine hK _ _ ⟨L7.c0, L7.c1, L8.c0, L8.c1, L9.c0, L9.c1⟩ ?_
        clear hK K
        refine plist #[true, true, true, true, true, true, true, true, true, true, true, true, true, true, true, true, false, false, false, false, false, false, false, false, false, false, false, false, false, false, false, false, false, false] (by kernel_rfl) ?_
        refine pone 16 (by kernel_rfl) rfl fun K hK => ?_
        go_simp
        refine hK _ _ ⟨L7.c0, L7.c1, L8.c0, L8.c1, L9.c0, L9.c1⟩ ?_
        clear hK K
        refine plist #[true, true, true, true, true, true, true, true, true, true, true, true, true, true, true, true, true, false, false, false, false, false, false, false, false, false, false, false, false, false, false, false, false, false] (by kernel_rfl) ?_
        refine pone 17 (by kernel_rfl) rfl fun K hK => ?_
        go_simp
        refine hK _ _ ⟨L7.c0, L7.c1, L8.c0, L8.c1, L9.c0, L9.c1⟩ ?_
        clear hK K
        refine plist #[true, true, true, true, true, true, true, true, true, true, true, true, true, true, true, true, true, true, false, false, false, false, false, false, false, false, false, false, false, false, false, false, false, false] (by kernel_rfl) ?_
        refine pone 18 (by kernel_rfl) rfl fun K hK => ?_
        go_simp
        refine hK _ _ ⟨L7.c0, L7.c1, L8.c0, L8.c1, L9.c0, L9.c1⟩ ?_
        clear hK K
        refine plist #[true, true, true, true, true, true, true, true, true, true, true, true, true, true, true, true, true, true, true, false, false, false, false, false, false, false, false, false, false, false, false, false, false, false] (by kernel_rfl) ?_
        refine pone 19 (by kernel_rfl) rfl fun K hK => ?_
        go_simp
        refine hK _ _ ⟨L7.c0, L7.c1, L8.c0, L8.c1, L9.c0, L9.c1⟩ ?_
        clear hK K
        refine plist #[true, true, true, true, true, true, true, true, true, true, true, true, true, true, true, true, true, true, true, true, false, false, false, false, false, false, false, false, false, false, false, false, false, false] (by kernel_rfl) ?_
        refine pone 20 (by kernel_rfl) rfl fun K hK => ?_
        go_simp
        refine hK _ _ ⟨L7.c0, L7.c1, L8.c0, L8.c1, L9.c0, L9.c1⟩ ?_
        clear hK K
        refine plist #[true, true, true, true, true, true, true, true, true, true, true, true, true, true, true, true, true, true, true, true, true, false, false, false, false, false, false, false, false, false, false, false, false, false] (by kernel_rfl) ?_
        refine wpAnyH_take (i := 21) (v := (.agg #[.slice q7 n7 c7, .slice r7 m7 d7])) rfl (by kernel_rfl) (by kernel_rfl) (by kernel_rfl) (fun _ _ _ h => h) (.inl ⟨by kernel_rfl, ?_⟩) ⟨L7.c0, L7.c1, L8.c0, L8.c1, L9.c0, L9.c1⟩ ?_
        · rintro w ⟨h1, h2, h3, h4, h5, h6⟩; go_simp <;> omega
        refine plist #[true, true, true, true, true, true, true, true, true, true, true, true, true, true, true, true, true, true, true, true, true, true, false, false, false, false, false, false, false, false, false, false, false, false] (by kernel_rfl) ?_
        refine wpAnyH_take (i := 22) (v := (.agg #[.slice q8 n8 c8, .slice r8 m8 d8])) rfl (by kernel_rfl) (by kernel_rfl) (by kernel_rfl) (fun _ _ _ h => h) (.inl ⟨by kernel_rfl, ?_⟩) ⟨L7.c0, L7.c1, L8.c0, L8.c1, L9.c0, L9.c1⟩ ?_
        · rintro w ⟨h1, h2, h3, h4, h5, h6⟩; go_simp <;> omega
        refine plist #[true, true, true, true, true, true, true, true, true, true, true, true, true, true, true, true, true, true, true, true, true, true, true, false, false, false, false, false, false, false, false, false, false, false] (by kernel_rfl) ?_
        refine wpAnyH_take (i := 29) (v := (.agg #[.slice q7 n7 c7, .slice r7 m7 d7])) rfl (by kernel_rfl) (by kernel_rfl) (by kernel_rfl) (fun _ _ _ h => h) (.inl ⟨by kernel_rfl, ?_⟩) ⟨L7.c0, L7.c1, L8.c0, L8.c1, L9.c0, L9.c1⟩ ?_
        · rintro w ⟨h1, h2, h3, h4, h5, h6⟩; go_simp <;> omega
        refine plist #[true, true, true, true, true, true, true, true, true, true, true, true, true, true, true, true, true, true, true, true, true, true, true, false, false, false, false, false, false, true, false, false, false, false] (by kernel_rfl) ?_
        refine wpAnyH_take (i := 30) (v := (.agg #[.slice q8 n8 c8, .slice r8 m8 d8])) rfl (by kernel_rfl) (by kernel_rfl) (by kernel_rfl) (fun _ _ _ h => h) (.inl ⟨by kernel_rfl, ?_⟩) ⟨L7.c0, L7.c1, L8.c0, L8.c1, L9.c0, L9.c1⟩ ?_
        · rintro w ⟨h1, h2, h3, h4, h5, h6⟩; go_simp <;> omega
        have con := Lbl.Flows_any _ _ l o Pr3 L7.2 L8.2 fl fo
        rewrite [HFA.out] at con
        refine plist #[true, true, true, true, true, true, true, true, true, true, true, true, true, true, true, true, true, true, true, true, true, true, true, false, false, false, false, false, false, true, true, false, false, false] (by kernel_rfl) ?_
        refine pone 23 (by kernel_rfl) rfl fun K hK => ?_
        go_simp
        refine con.mono ?_
        rintro e Pr4 ⟨rfl, hb⟩
        have DP4 := DP3.trans (hb.mono DP3.size)
        replace L7 := L7.on hb
        replace L8 := L8.on hb
        replace L9 := L9.on hb
        clear hb con DP3
        refine hK _ _ ⟨L7.c0, L7.c1, L8.c0, L8.c1, L9.c0, L9.c1⟩ ?_
        clear hK K
        refine plist #[true, true, true, true, true, true, true, true, true, true, true, true, true, true, true, true, true, true, true, true, true, true, true, true, false, false, false, false, false, true, true, false, false, false] (by kernel_rfl) ?_
        refine pone 24 (by kernel_rfl) rfl fun K hK => ?_
        go_simp
        refine hK _ _ ⟨L7.c0, L7.c1, L8.c0, L8.c1, L9.c0, L9.c1⟩ ?_
        clear hK K
        refine plist #[true, true, true, true, true, true, true, true, true, true, true, true, true, true, true, true, true, true, true, true, true, true, true, true, true, false, false, false, false, true, true, false, false, false] (by kernel_rfl) ?_
        refine wpAnyH_take (i := 25) (v := (undef)) rfl (by kernel_rfl) (by kernel_rfl) (by kernel_rfl) (fun _ _ _ h => h) (.inr ⟨by kernel_rfl, rfl⟩) ⟨L7.c0, L7.c1, L8.c0, L8.c1, L9.c0, L9.c1⟩ ?_
        refine plist #[true, true, true, true, true, true, true, true, true, true, true, true, true, true, true, true, true, true, true, true, true, true, true, true, true, true, false, false, false, true, true, false, false, false] (by kernel_rfl) ?_
        refine pone 26 (by kernel_rfl) rfl fun K hK => ?_
        go_simp
        refine hK _ _ ⟨L7.c0, L7.c1, L8.c0, L8.c1, L9.c0, L9.c1⟩ ?_
        clear hK K
        refine plist #[true, true, true, true, true, true, true, true, true, true, true, true, true, true, true, true, true, true, true, true, true, true, true, true, true, true, true, false, false, true, true, false, false, false] (by kernel_rfl) ?_
        refine pone 27 (by kernel_rfl) rfl fun K hK => ?_
        go_simp
        refine hK _ _ ⟨L7.c0, L7.c1, L8.c0, L8.c1, L9.c0, L9.c1⟩ ?_
        clear hK K
        refine plist #[true, true, true, true, true, true, true, true, true, true, true, true, true, true, true, true, true, true, true, true, true, true, true, true, true, true, true, true, false, true, true, false, false, false] (by kernel_rfl) ?_
        refine wpAnyH_take (i := 28) (v := (.bool false)) rfl (by kernel_rfl) (by kernel_rfl) (by kernel_rfl) (fun _ _ _ h => h) (.inl ⟨by kernel_rfl, ?_⟩) ⟨L7.c0, L7.c1, L8.c0, L8.c1, L9.c0, L9.c1⟩ ?_
        · rintro w ⟨h1, h2, h3, h4, h5, h6⟩; go_simp <;> omega
        have con := Lbl.Same_any _ _ l o Pr4 L7.2 L8.2 fl fo
        rewrite [show sameB l o = false from HS.out] at con
        refine plist #[true, true, true, true, true, true, true, true, true, true, true, true, true, true, true, true, true, true, true, true, true, true, true, true, true, true, true, true, true, true, true, false, false, false] (by kernel_rfl) ?_
        refine pone 31 (by kernel_rfl) rfl fun K hK => ?_
        go_simp
        refine con.mono ?_
        rintro e Pr5 ⟨rfl, hb⟩
        have DP5 := DP4.trans (hb.mono DP4.size)
        replace L7 := L7.on hb
        replace L8 := L8.on hb
        replace L9 := L9.on hb
        clear hb con DP4
        refine hK _ _ ⟨L7.c0, L7.c1, L8.c0, L8.c1, L9.c0, L9.c1⟩ ?_
        clear hK K
        refine plist #[true, true, true, true, true, true, true, true, true, true, true, true, true, true, true, true, true, true, true, true, true, true, true, true, true, true, true, true, true, true, true, true, false, false] (by kernel_rfl) ?_
        refine pone 32 (by kernel_rfl) rfl fun K hK => ?_
        go_simp
        refine hK _ _ ⟨L7.c0, L7.c1, L8.c0, L8.c1, L9.c0, L9.c1⟩ ?_
        clear hK K
        refine plist #[true, true, true, true, true, true, true, true, true, true, true, true, true, true, true, true, true, true, true, true, true, true, true, true, true, true, true, true, true, true, true, true, true, false] (by kernel_rfl) ?_
        refine pone 33 (by kernel_rfl) rfl fun K hK => ?_
        go_simp
        refine hK _ _ ⟨L7.c0, L7.c1, L8.c0, L8.c1, L9.c0, L9.c1⟩ ?_
        clear hK K
        refine pdone (by kernel_rfl) ?_ _
        go_wp2_with fail
        go_meet
        exact ⟨rfl, DP5⟩
    | true =>
        refine plist #[true, true, true, true, true, true, true, false, false, false, false, false, false, false, false, false, false, false, false, false, false, false, false, false, false, false, false, false, false, false, false, false, false, false] (by kernel_rfl) ?_
        refine pone 7 (by kernel_rfl) rfl fun K hK => ?_
        go_simp
        refine con.mono ?_
        rintro e Pr3 ⟨rfl, hb⟩
        have DP3 := DP2.trans (hb.mono DP2.size)
        replace L7 := L7.on hb
        replace L8 := L8.on hb
        replace L9 := L9.on hb
        clear hb con DP2
        refine hK _ _ ⟨L7.c0, L7.c1, L8.c0, L8.c1, L9.c0, L9.c1⟩ ?_
        clear hK K
        refine plist #[true, true, true, true, true, true, true, true, false, false, false, false, false, false, false, false, false, false, false, false, false, false, false, false, false, false, false, false, false, false, false, false, false, false] (by kernel_rfl) ?_
        refine pone 8 (by kernel_rfl) rfl fun K hK => ?_
        go_simp
        refine hK _ _ ⟨L7.c0, L7.c1, L8.c0, L8.c1, L9.c0, L9.c1⟩ ?_
        clear hK K
        refine plist #[true, true, true, true, true, true, true, true, true, false, false, false, false, false, false, false, false, false, false, false, false, false, false, false, false, false, false, false, false, false, false, false, false, false] (by kernel_rfl) ?_
        refine wpAnyH_take (i := 9) (v := (.agg #[.slice q8 n8 c8, .slice r8 m8 d8])) rfl (by kernel_rfl) (by kernel_rfl) (by kernel_rfl) (fun _ _ _ h => h) (.inl ⟨by kernel_rfl, ?_⟩) ⟨L7.c0, L7.c1, L8.c0, L8.c1, L9.c0, L9.c1⟩ ?_
        · rintro w ⟨h1, h2, h3, h4, h5, h6⟩; go_simp <;> omega
        refine plist #[true, true, true, true, true, true, true, true, true, true, false, false, false, false, false, false, false, false, false, false, false, false, false, false, false, false, false, false, false, false, false, false, false, false] (by kernel_rfl) ?_
        refine wpAnyH_take (i := 10) (v := (.agg #[.slice q9 n9 c9, .slice r9 m9 d9])) rfl (by kernel_rfl) (by kernel_rfl) (by kernel_rfl) (fun _ _ _ h => h) (.inl ⟨by kernel_rfl, ?_⟩) ⟨L7.c0, L7.c1, L8.c0, L8.c1, L9.c0, L9.c1⟩ ?_
        · rintro w ⟨h1, h2, h3, h4, h5, h6⟩; go_simp <;> omega
        have con := Lbl.Flows_any _ _ o m Pr3 L8.2 L9.2 fo fm
        rewrite [HFB.out] at con
        cases FB with
        | false =>
            refine plist #[true, true, true, true, true, true, true, true, true, true, true, false, false, false, false, false, false, false, false, false, false, false, false, false, false, false, false, false, false, false, false, false, false, false] (by kernel_rfl) ?_
            refine pone 11 (by kernel_rfl) rfl fun K hK => ?_
            go_simp
            refine con.mono ?_
            rintro e Pr4 ⟨rfl, hb⟩
            have DP4 := DP3.trans (hb.mono DP3.size)
            replace L7 := L7.on hb
            replace L8 := L8.on hb
            replace L9 := L9.on hb
            clear hb con DP3
            refine hK _ _ ⟨L7.c0, L7.c1, L8.c0, L8.c1, L9.c0, L9.c1⟩ ?_
            clear hK K
            refine plist #[true, true, true, true, true, true, true, true, true, true, true, true, false, false, false, false, false, false, false, false, false, false, false, false, false, false, false, false, false, false, false, false, false, false] (by kernel_rfl) ?_
            refine pone 12 (by kernel_rfl) rfl fun K hK => ?_
            go_simp
            refine hK _ _ ⟨L7.c0, L7.c1, L8.c0, L8.c1, L9.c0, L9.c1⟩ ?_
            clear hK K
            refine plist #[true, true, true, true, true, true, true, true, true, true, true, true, true, false, false, false, false, false, false, false, false, false, false, false, false, false, false, false, false, false, false, false, false, false] (by kernel_rfl) ?_
            refine pone 13 (by kernel_rfl) rfl fun K hK => ?_
            go_simp
            refine hK _ _ ⟨L7.c0, L7.c1, L8.c0, L8.c1, L9.c0, L9.c1⟩ ?_
            clear hK K
            refine plist #[true, true, true, true, true, true, true, true, true, true, true, true, true, true, false, false, false, false, false, false, false, false, false, false, false, false, false, false, false, false, false, false, false, false] (by kernel_rfl) ?_
            refine wpAnyH_take (i := 14) (v := (undef)) rfl (by kernel_rfl) (by kernel_rfl) (by kernel_rfl) (fun _ _ _ h => h) (.inr ⟨by kernel_rfl, rfl⟩) ⟨L7.c0, L7.c1, L8.c0, L8.c1, L9.c0, L9.c1⟩ ?_
            refine plist #[true, true, true, true, true, true, true, true, true, true, true, true, true, true, true, false, false, false, false, false, false, false, false, false, false, false, false, false, false, false, false, false, false, false] (by kernel_rfl) ?_
            refine pone 15 (by kernel_rfl) rfl fun K hK => ?_
            go_simp
            refine hK _ _ ⟨L7.c0, L7.c1, L8.c0, L8.c1, L9.c0, L9.c1⟩ ?_
            clear hK K
            refine plist #[true, true, true, true, true, true, true, true, true, true, true, true, true, true, true, true, false, false, false, false, false, false, false, false, false, false, false, false, false, false, false, false, false, false] (by kernel_rfl) ?_
            refine pone 16 (by kernel_rfl) rfl fun K hK => ?_
            go_simp
            refine hK _ _ ⟨L7.c0, L7.c1, L8.c0, L8.c1, L9.c0, L9.c1⟩ ?_
            clear hK K
            refine plist #[true, true, true, true, true, true, true, true, true, true, true, true, true, true, true, true, true, false, false, false, false, false, false, false, false, false, false, false, false, false, false, false, false, false] (by kernel_rfl) ?_
            refine pone 17 (by kernel_rfl) rfl fun K hK => ?_
            go_simp
            refine hK _ _ ⟨L7.c0, L7.c1, L8.c0, L8.c1, L9.c0, L9.c1⟩ ?_
            clear hK K
            refine plist #[true, true, true, true, true, true, true, true, true, true, true, true, true, true, true, true, true, true, false, false, false, false, false, false, false, false, false, false, false, false, false, false, false, false] (by kernel_rfl) ?_
            refine pone 18 (by kernel_rfl) rfl fun K hK => ?_
            go_simp
            refine hK _ _ ⟨L7.c0, L7.c1, L8.c0, L8.c1, L9.c0, L9.c1⟩ ?_
            clear hK K
            refine plist #[true, true, true, true, true, true, true, true, true, true, true, true, true, true, true, true, true, true, true, false, false, false, false, false, false, false, false, false, false, false, false, false, false, false] (by kernel_rfl) ?_
            refine pone 19 (by kernel_rfl) rfl fun K hK => ?_
            go_simp
            refine hK _ _ ⟨L7.c0, L7.c1, L8.c0, L8.c1, L9.c0, L9.c1⟩ ?_
            clear hK K
            refine plist #[true, true, true, true, true, true, true, true, true, true, true, true, true, true, true, true, true, true, true, true, false, false, false, false, false, false, false, false, false, false, false, false, false, false] (by kernel_rfl) ?_
            refine pone 20 (by kernel_rfl) rfl fun K hK => ?_
            go_simp
            refine hK _ _ ⟨L7.c0, L7.c1, L8.c0, L8.c1, L9.c0, L9.c1⟩ ?_
            clear hK K
            refine plist #[true, true, true, true, true, true, true, true, true, true, true, true, true, true, true, true, true, true, true, true, true, false, false, false, false, false, false, false, false, false, false, false, false, false] (by kernel_rfl) ?_
            refine wpAnyH_take (i := 21) (v := (.agg #[.slice q7 n7 c7, .slice r7 m7 d7])) rfl (by kernel_rfl) (by kernel_rfl) (by kernel_rfl) (fun _ _ _ h => h) (.inl ⟨by kernel_rfl, ?_⟩) ⟨L7.c0, L7.c1, L8.c0, L8.c1, L9.c0, L9.c1⟩ ?_
            · rintro w ⟨h1, h2, h3, h4, h5, h6⟩; go_simp <;> omega
            refine plist #[true, true, true, true, true, true, true, true, true, true, true, true, true, true, true, true, true, true, true, true, true, true, false, false, false, false, false, false, false, false, false, false, false, false] (by kernel_rfl) ?_
            refine wpAnyH_take (i := 22) (v := (.agg #[.slice q8 n8 c8, .slice r8 m8 d8])) rfl (by kernel_rfl) (by kernel_rfl) (by kernel_rfl) (fun _ _ _ h => h) (.inl ⟨by kernel_rfl, ?_⟩) ⟨L7.c0, L7.c1, L8.c0, L8.c1, L9.c0, L9.c1⟩ ?_
            · rintro w ⟨h1, h2, h3, h4, h5, h6⟩; go_simp <;> omega
            refine plist #[true, true, true, true, true, true, true, true, true, true, true, true, true, true, true, true, true, true, true, true, true, true, true, false, false, false, false, false, false, false, false, false, false, false] (by kernel_rfl) ?_
            refine wpAnyH_take (i := 29) (v := (.agg #[.slice q7 n7 c7, .slice r7 m7 d7])) rfl (by kernel_rfl) (by kernel_rfl) (by kernel_rfl) (fun _ _ _ h => h) (.inl ⟨by kernel_rfl, ?_⟩) ⟨L7.c0, L7.c1, L8.c0, L8.c1, L9.c0, L9.c1⟩ ?_
            · rintro w ⟨h1, h2, h3, h4, h5, h6⟩; go_simp <;> omega
            refine plist #[true, true, true, true, true, true, true, true, true, true, true, true, true, true, true, true, true, true, true, true, true, true, true, false, false, false, false, false, false, true, false, false, false, false] (by kernel_rfl) ?_
            refine wpAnyH_take (i := 30) (v := (.agg #[.slice q8 n8 c8, .slice r8 m8 d8])) rfl (by kernel_rfl) (by kernel_rfl) (by kernel_rfl) (fun _ _ _ h => h) (.inl ⟨by kernel_rfl, ?_⟩) ⟨L7.c0, L7.c1, L8.c0, L8.c1, L9.c0, L9.c1⟩ ?_
            · rintro w ⟨h1, h2, h3, h4, h5, h6⟩; go_simp <;> omega
            have con := Lbl.Flows_any _ _ l o Pr4 L7.2 L8.2 fl fo
            rewrite [HFA.out] at con
            refine plist #[true, true, true, true, true, true, true, true, true, true, true, true, true, true, true, true, true, true, true, true, true, true, true, false, false, false, false, false, false, true, true, false, false, false] (by kernel_rfl) ?_
            refine pone 23 (by kernel_rfl) rfl fun K hK => ?_
            go_simp
            refine con.mono ?_
            rintro e Pr5 ⟨rfl, hb⟩
            have DP5 := DP4.trans (hb.mono DP4.size)
            replace L7 := L7.on hb
            replace L8 := L8.on hb
            replace L9 := L9.on hb
            clear hb con DP4
            refine hK _ _ ⟨L7.c0, L7.c1, L8.c0, L8.c1, L9.c0, L9.c1⟩ ?_
            clear hK K
            refine plist #[true, true, true, true, true, true, true, true, true, true, true, true, true, true, true, true, true, true, true, true, true, true, true, true, false, false, false, false, false, true, true, false, false, false] (by kernel_rfl) ?_
            refine pone 24 (by kernel_rfl) rfl fun K hK => ?_
            go_simp
            refine hK _ _ ⟨L7.c0, L7.c1, L8.c0, L8.c1, L9.c0, L9.c1⟩ ?_
            clear hK K
            refine plist #[true, true, true, true, true, true, true, true, true, true, true, true, true, true, true, true, true, true, true, true, true, true, true, true, true, false, false, false, false, true, true, false, false, false] (by kernel_rfl) ?_
            refine wpAnyH_take (i := 25) (v := (.agg #[.slice q8 n8 c8, .slice r8 m8 d8])) rfl (by kernel_rfl) (by kernel_rfl) (by kernel_rfl) (fun _ _ _ h => h) (.inl ⟨by kernel_rfl, ?_⟩) ⟨L7.c0, L7.c1, L8.c0, L8.c1, L9.c0, L9.c1⟩ ?_
            · rintro w ⟨h1, h2, h3, h4, h5, h6⟩; go_simp <;> omega
            refine plist #[true, true, true, true, true, true, true, true, true, true, true, true, true, true, true, true, true, true, true, true, true, true, true, true, true, true, false, false, false, true, true, false, false, false] (by kernel_rfl) ?_
            refine wpAnyH_take (i := 26) (v := (.agg #[.slice q7 n7 c7, .slice r7 m7 d7])) rfl (by kernel_rfl) (by kernel_rfl) (by kernel_rfl) (fun _ _ _ h => h) (.inl ⟨by kernel_rfl, ?_⟩) ⟨L7.c0, L7.c1, L8.c0, L8.c1, L9.c0, L9.c1⟩ ?_
            · rintro w ⟨h1, h2, h3, h4, h5, h6⟩; go_simp <;> omega
            have con := Lbl.Flows_any _ _ o l Pr5 L8.2 L7.2 fo fl
            rewrite [HFC.out] at con
            cases FC with
            | false =>
                refine plist #[true, true, true, true, true, true, true, true, true, true, true, true, true, true, true, true, true, true, true, true, true, true, true, true, true, true, true, false, false, true, true, false, false, false] (by kernel_rfl) ?_
                refine pone 27 (by kernel_rfl) rfl fun K hK => ?_
                go_simp
                refine con.mono ?_
                rintro e Pr6 ⟨rfl, hb⟩
                have DP6 := DP5.trans (hb.mono DP5.size)
                replace L7 := L7.on hb
                replace L8 := L8.on hb
                replace L9 := L9.on hb
                clear hb con DP5
                refine hK _ _ ⟨L7.c0, L7.c1, L8.c0, L8.c1, L9.c0, L9.c1⟩ ?_
                clear hK K
                refine plist #[true, true, true, true, true, true, true, true, true, true, true, true, true, true, true, true, true, true, true, true, true, true, true, true, true, true, true, true, false, true, true, false, false, false] (by kernel_rfl) ?_
                refine wpAnyH_take (i := 28) (v := (.bool false)) rfl (by kernel_rfl) (by kernel_rfl) (by kernel_rfl) (fun _ _ _ h => h) (.inl ⟨by kernel_rfl, ?_⟩) ⟨L7.c0, L7.c1, L8.c0, L8.c1, L9.c0, L9.c1⟩ ?_
                · rintro w ⟨h1, h2, h3, h4, h5, h6⟩; go_simp <;> omega
                have con := Lbl.Same_any _ _ l o Pr6 L7.2 L8.2 fl fo
                rewrite [show sameB l o = false from HS.out] at con
                refine plist #[true, true, true, true, true, true, true, true, true, true, true, true, true, true, true, true, true, true, true, true, true, true, true, true, true, true, true, true, true, true, true, false, false, false] (by kernel_rfl) ?_
                refine pone 31 (by kernel_rfl) rfl fun K hK => ?_
                go_simp
                refine con.mono ?_
                rintro e Pr7 ⟨rfl, hb⟩
                have DP7 := DP6.trans (hb.mono DP6.size)
                replace L7 := L7.on hb
                replace L8 := L8.on hb
                replace L9 := L9.on hb
                clear hb con DP6
                refine hK _ _ ⟨L7.c0, L7.c1, L8.c0, L8.c1, L9.c0, L9.c1⟩ ?_
                clear hK K
                refine plist #[true, true, true, true, true, true, true, true, true, true, true, true, true, true, true, true, true, true, true, true, true, true, true, true, true, true, true, true, true, true, true, true, false, false] (by kernel_rfl) ?_
                refine pone 32 (by kernel_rfl) rfl fun K hK => ?_
                go_simp
                refine hK _ _ ⟨L7.c0, L7.c1, L8.c0, L8.c1, L9.c0, L9.c1⟩ ?_
                clear hK K
                refine plist #[true, true, true, true, true, true, true, true, true, true, true, true, true, true, true, true, true, true, true, true, true, true, true, true, true, true, true, true, true, true, true, true, true, false] (by kernel_rfl) ?_
                refine pone 33 (by kernel_rfl) rfl fun K hK => ?_
                go_simp
                refine hK _ _ ⟨L7.c0, L7.c1, L8.c0, L8.c1, L9.c0, L9.c1⟩ ?_
                clear hK K
                refine pdone (by kernel_rfl) ?_ _
                go_wp2_with fail
                go_meet
                exact ⟨rfl, DP7⟩
            | true =>
                refine plist #[true, true, true, true, true, true, true, true, true, true, true, true, true, true, true, true, true, true, true, true, true, true, true, true, true, true, true, false, false, true, true, false, false, false] (by kernel_rfl) ?_
                refine pone 27 (by kernel_rfl) rfl fun K hK => ?_
                go_simp
                refine con.mono ?_
                rintro e Pr6 ⟨rfl, hb⟩
                have DP6 := DP5.trans (hb.mono DP5.size)
                replace L7 := L7.on hb
                replace L8 := L8.on hb
                replace L9 := L9.on hb
                clear hb con DP5
                refine hK _ _ ⟨L7.c0, L7.c1, L8.c0, L8.c1, L9.c0, L9.c1⟩ ?_
                clear hK K
                refine plist #[true, true, true, true, true, true, true, true, true, true, true, true, true, true, true, true, true, true, true, true, true, true, true, true, true, true, true, true, false, true, true, false, false, false] (by kernel_rfl) ?_
                refine wpAnyH_take (i := 28) (v := (.bool true)) rfl (by kernel_rfl) (by kernel_rfl) (by kernel_rfl) (fun _ _ _ h => h) (.inl ⟨by kernel_rfl, ?_⟩) ⟨L7.c0, L7.c1, L8.c0, L8.c1, L9.c0, L9.c1⟩ ?_
                · rintro w ⟨h1, h2, h3, h4, h5, h6⟩; go_simp <;> omega
                have con := Lbl.Same_any _ _ l o Pr6 L7.2 L8.2 fl fo
                rewrite [show sameB l o = true from HS.out] at con
                refine plist #[true, true, true, true, true, true, true, true, true, true, true, true, true, true, true, true, true, true, true, true, true, true, true, true, true, true, true, true, true, true, true, false, false, false] (by kernel_rfl) ?_
                refine pone 31 (by kernel_rfl) rfl fun K hK => ?_
                go_simp
                refine con.mono ?_
                rintro e Pr7 ⟨rfl, hb⟩
                have DP7 := DP6.trans (hb.mono DP6.size)
                replace L7 := L7.on hb
                replace L8 := L8.on hb
                replace L9 := L9.on hb
                clear hb con DP6
                refine hK _ _ ⟨L7.c0, L7.c1, L8.c0, L8.c1, L9.c0, L9.c1⟩ ?_
                clear hK K
                refine plist #[true, true, true, true, true, true, true, true, true, true, true, true, true, true, true, true, true, true, true, true, true, true, true, true, true, true, true, true, true, true, true, true, false, false] (by kernel_rfl) ?_
                refine pone 32 (by kernel_rfl) rfl fun K hK => ?_
                go_simp
                refine hK _ _ ⟨L7.c0, L7.c1, L8.c0, L8.c1, L9.c0, L9.c1⟩ ?_
                clear hK K
                refine plist #[true, true, true, true, true, true, true, true, true, true, true, true, true, true, true, true, true, true, true, true, true, true, true, true, true, true, true, true, true, true, true, true, true, false] (by kernel_rfl) ?_
                refine pone 33 (by kernel_rfl) rfl fun K hK => ?_
                go_simp
                refine hK _ _ ⟨L7.c0, L7.c1, L8.c0, L8.c1, L9.c0, L9.c1⟩ ?_
                clear hK K
                refine pdone (by kernel_rfl) ?_ _
                go_wp2_with fail
                go_meet
                exact ⟨rfl, DP7⟩
        | true =>
            refine plist #[true, true, true, true, true, true, true, true, true, true, true, false, false, false, false, false, false, false, false, false, false, false, false, false, false, false, false, false, false, false, false, false, false, false] (by kernel_rfl) ?_
            refine pone 11 (by kernel_rfl) rfl fun K hK => ?_
            go_simp
            refine con.mono ?_
            rintro e Pr4 ⟨rfl, hb⟩
            have DP4 := DP3.trans (hb.mono DP3.size)
            replace L7 := L7.on hb
            replace L8 := L8.on hb
            replace L9 := L9.on hb
            clear hb con DP3
            refine hK _ _ ⟨L7.c0, L7.c1, L8.c0, L8.c1, L9.c0, L9.c1⟩ ?_
            clear hK K
            refine plist #[true, true, true, true, true, true, true, true, true, true, true, true, false, false, false, false, false, false, false, false, false, false, false, false, false, false, false, false, false, false, false, false, false, false] (by kernel_rfl) ?_
            refine pone 12 (by kernel_rfl) rfl fun K hK => ?_
            go_simp
            refine hK _ _ ⟨L7.c0, L7.c1, L8.c0, L8.c1, L9.c0, L9.c1⟩ ?_
            clear hK K
            refine plist #[true, true, true, true, true, true, true, true, true, true, true, true, true, false, false, false, false, false, false, false, false, false, false, false, false, false, false, false, false, false, false, false, false, false] (by kernel_rfl) ?_
            refine pone 13 (by kernel_rfl) rfl fun K hK => ?_
            go_simp
            refine hK _ _ ⟨L7.c0, L7.c1, L8.c0, L8.c1, L9.c0, L9.c1⟩ ?_
            clear hK K
            refine plist #[true, true, true, true, true, true, true, true, true, true, true, true, true, true, false, false, false, false, false, false, false, false, false, false, false, false, false, false, false, false, false, false, false, false] (by kernel_rfl) ?_
            refine wpAnyH_take (i := 14) (v := (.agg #[.slice q7 n7 c7, .slice r7 m7 d7])) rfl (by kernel_rfl) (by kernel_rfl) (by kernel_rfl) (fun _ _ _ h => h) (.inl ⟨by kernel_rfl, ?_⟩) ⟨L7.c0, L7.c1, L8.c0, L8.c1, L9.c0, L9.c1⟩ ?_
            · rintro w ⟨h1, h2, h3, h4, h5, h6⟩; go_simp <;> omega
            refine plist #[true, true, true, true, true, true, true, true, true, true, true, true, true, true, true, false, false, false, false, false, false, false, false, false, false, false, false, false, false, false, false, false, false, false] (by kernel_rfl) ?_
            refine wpAnyH_take (i := 15) (v := (.agg #[.slice q9 n9 c9, .slice r9 m9 d9])) rfl (by kernel_rfl) (by kernel_rfl) (by kernel_rfl) (fun _ _ _ h => h) (.inl ⟨by kernel_rfl, ?_⟩) ⟨L7.c0, L7.c1, L8.c0, L8.c1, L9.c0, L9.c1⟩ ?_
            · rintro w ⟨h1, h2, h3, h4, h5, h6⟩; go_simp <;> omega
            have con := Lbl.Flows_any _ _ l m Pr4 L7.2 L9.2 fl fm
            rewrite [HT.out HFA.out HFB.out] at con
            refine plist #[true, true, true, true, true, true, true, true, true, true, true, true, true, true, true, true, false, false, false, false, false, false, false, false, false, false, false, false, false, false, false, false, false, false] (by kernel_rfl) ?_
            refine pone 16 (by kernel_rfl) rfl fun K hK => ?_
            go_simp
            refine con.mono ?_
            rintro e Pr5 ⟨rfl, hb⟩
            have DP5 := DP4.trans (hb.mono DP4.size)
            replace L7 := L7.on hb
            replace L8 := L8.on hb
            replace L9 := L9.on hb
            clear hb con DP4
            refine hK _ _ ⟨L7.c0, L7.c1, L8.c0, L8.c1, L9.c0, L9.c1⟩ ?_
            clear hK K
            refine plist #[true, true, true, true, true, true, true, true, true, true, true, true, true, true, true, true, true, false, false, false, false, false, false, false, false, false, false, false, false, false, false, false, false, false] (by kernel_rfl) ?_
            refine pone 17 (by kernel_rfl) rfl fun K hK => ?_
            go_simp
            refine hK _ _ ⟨L7.c0, L7.c1, L8.c0, L8.c1, L9.c0, L9.c1⟩ ?_
            clear hK K
            refine plist #[true, true, true, true, true, true, true, true, true, true, true, true, true, true, true, true, true, true, false, false, false, false, false, false, false, false, false, false, false, false, false, false, false, false] (by kernel_rfl) ?_
            refine pone 18 (by kernel_rfl) rfl fun K hK => ?_
            go_simp
            refine hK _ _ ⟨L7.c0, L7.c1, L8.c0, L8.c1, L9.c0, L9.c1⟩ ?_
            clear hK K
            refine plist #[true, true, true, true, true, true, true, true, true, true, true, true, true, true, true, true, true, true, true, false, false, false, false, false, false, false, false, false, false, false, false, false, false, false] (by kernel_rfl) ?_
            refine pone 19 (by kernel_rfl) rfl fun K hK => ?_
            go_simp
            refine hK _ _ ⟨L7.c0, L7.c1, L8.c0, L8.c1, L9.c0, L9.c1⟩ ?_
            clear hK K
            refine plist #[true, true, true, true, true, true, true, true, true, true, true, true, true, true, true, true, true, true, true, true, false, false, false, false, false, false, false, false, false, false, false, false, false, false] (by kernel_rfl) ?_
            refine pone 20 (by kernel_rfl) rfl fun K hK => ?_
            go_simp
            refine hK _ _ ⟨L7.c0, L7.c1, L8.c0, L8.c1, L9.c0, L9.c1⟩ ?_
            clear hK K
            refine plist #[true, true, true, true, true, true, true, true, true, true, true, true, true, true, true, true, true, true, true, true, true, false, false, false, false, false, false, false, false, false, false, false, false, false] (by kernel_rfl) ?_
            refine wpAnyH_take (i := 21) (v := (.agg #[.slice q7 n7 c7, .slice r7 m7 d7])) rfl (by kernel_rfl) (by kernel_rfl) (by kernel_rfl) (fun _ _ _ h => h) (.inl ⟨by kernel_rfl, ?_⟩) ⟨L7.c0, L7.c1, L8.c0, L8.c1, L9.c0, L9.c1⟩ ?_
            · rintro w ⟨h1, h2, h3, h4, h5, h6⟩; go_simp <;> omega
            refine plist #[true, true, true, true, true, true, true, true, true, true, true, true, true, true, true, true, true, true, true, true, true, true, false, false, false, false, false, false, false, false, false, false, false, false] (by kernel_rfl) ?_
            refine wpAnyH_take (i := 22) (v := (.agg #[.slice q8 n8 c8, .slice r8 m8 d8])) rfl (by kernel_rfl) (by kernel_rfl) (by kernel_rfl) (fun _ _ _ h => h) (.inl ⟨by kernel_rfl, ?_⟩) ⟨L7.c0, L7.c1, L8.c0, L8.c1, L9.c0, L9.c1⟩ ?_
            · rintro w ⟨h1, h2, h3, h4, h5, h6⟩; go_simp <;> omega
            refine plist #[true, true, true, true, true, true, true, true, true, true, true, true, true, true, true, true, true, true, true, true, true, true, true, false, false, false, false, false, false, false, false, false, false, false] (by kernel_rfl) ?_
            refine wpAnyH_take (i := 29) (v := (.agg #[.slice q7 n7 c7, .slice r7 m7 d7])) rfl (by kernel_rfl) (by kernel_rfl) (by kernel_rfl) (fun _ _ _ h => h) (.inl ⟨by kernel_rfl, ?_⟩) ⟨L7.c0, L7.c1, L8.c0, L8.c1, L9.c0, L9.c1⟩ ?_
            · rintro w ⟨h1, h2, h3, h4, h5, h6⟩; go_simp <;> omega
            refine plist #[true, true, true, true, true, true, true, true, true, true, true, true, true, true, true, true, true, true, true, true, true, true, true, false, false, false, false, false, false, true, false, false, false, false] (by kernel_rfl) ?_
            refine wpAnyH_take (i := 30) (v := (.agg #[.slice q8 n8 c8, .slice r8 m8 d8])) rfl (by kernel_rfl) (by kernel_rfl) (by kernel_rfl) (fun _ _ _ h => h) (.inl ⟨by kernel_rfl, ?_⟩) ⟨L7.c0, L7.c1, L8.c0, L8.c1, L9.c0, L9.c1⟩ ?_
            · rintro w ⟨h1, h2, h3, h4, h5, h6⟩; go_simp <;> omega
            have con := Lbl.Flows_any _ _ l o Pr5 L7.2 L8.2 fl fo
            rewrite [HFA.out] at con
            refine plist #[true, true, true, true, true, true, true, true, true, true, true, true, true, true, true, true, true, true, true, true, true, true, true, false, false, false, false, false, false, true, true, false, false, false] (by kernel_rfl) ?_
            refine pone 23 (by kernel_rfl) rfl fun K hK => ?_
            go_simp
            refine con.mono ?_
            rintro e Pr6 ⟨rfl, hb⟩
            have DP6 := DP5.trans (hb.mono DP5.size)
            replace L7 := L7.on hb
            replace L8 := L8.on hb
            replace L9 := L9.on hb
            clear hb con DP5
            refine hK _ _ ⟨L7.c0, L7.c1, L8.c0, L8.c1, L9.c0, L9.c1⟩ ?_
            clear hK K
            refine plist #[true, true, true, true, true, true, true, true, true, true, true, true, true, true, true, true, true, true, true, true, true, true, true, true, false, false, false, false, false, true, true, false, false, false] (by kernel_rfl) ?_
            refine pone 24 (by kernel_rfl) rfl fun K hK => ?_
            go_simp
            refine hK _ _ ⟨L7.c0, L7.c1, L8.c0, L8.c1, L9.c0, L9.c1⟩ ?_
            clear hK K
            refine plist #[true, true, true, true, true, true, true, true, true, true, true, true, true, true, true, true, true, true, true, true, true, true, true, true, true, false, false, false, false, true, true, false, false, false] (by kernel_rfl) ?_
            refine wpAnyH_take (i := 25) (v := (.agg #[.slice q8 n8 c8, .slice r8 m8 d8])) rfl (by kernel_rfl) (by kernel_rfl) (by kernel_rfl) (fun _ _ _ h => h) (.inl ⟨by kernel_rfl, ?_⟩) ⟨L7.c0, L7.c1, L8.c0, L8.c1, L9.c0, L9.c1⟩ ?_
            · rintro w ⟨h1, h2, h3, h4, h5, h6⟩; go_simp <;> omega
            refine plist #[true, true, true, true, true, true, true, true, true, true, true, true, true, true, true, true, true, true, true, true, true, true, true, true, true, true, false, false, false, true, true, false, false, false] (by kernel_rfl) ?_
            refine wpAnyH_take (i := 26) (v := (.agg #[.slice q7 n7 c7, .slice r7 m7 d7])) rfl (by kernel_rfl) (by kernel_rfl) (by kernel_rfl) (fun _ _ _ h => h) (.inl ⟨by kernel_rfl, ?_⟩) ⟨L7.c0, L7.c1, L8.c0, L8.c1, L9.c0, L9.c1⟩ ?_
            · rintro w ⟨h1, h2, h3, h4, h5, h6⟩; go_simp <;> omega
            have con := Lbl.Flows_any _ _ o l Pr6 L8.2 L7.2 fo fl
            rewrite [HFC.out] at con
            cases FC with
            | false =>
                refine plist #[true, true, true, true, true, true, true, true, true, true, true, true, true, true, true, true, true, true, true, true, true, true, true, true, true, true, true, false, false, true, true, false, false, false] (by kernel_rfl) ?_
                refine pone 27 (by kernel_rfl) rfl fun K hK => ?_
                go_simp
                refine con.mono ?_
                rintro e Pr7 ⟨rfl, hb⟩
                have DP7 := DP6.trans (hb.mono DP6.size)
                replace L7 := L7.on hb
                replace L8 := L8.on hb
                replace L9 := L9.on hb
                clear hb con DP6
                refine hK _ _ ⟨L7.c0, L7.c1, L8.c0, L8.c1, L9.c0, L9.c1⟩ ?_
                clear hK K
                refine plist #[true, true, true, true, true, true, true, true, true, true, true, true, true, true, true, true, true, true, true, true, true, true, true, true, true, true, true, true, false, true, true, false, false, false] (by kernel_rfl) ?_
                refine wpAnyH_take (i := 28) (v := (.bool false)) rfl (by kernel_rfl) (by kernel_rfl) (by kernel_rfl) (fun _ _ _ h => h) (.inl ⟨by kernel_rfl, ?_⟩) ⟨L7.c0, L7.c1, L8.c0, L8.c1, L9.c0, L9.c1⟩ ?_
                · rintro w ⟨h1, h2, h3, h4, h5, h6⟩; go_simp <;> omega
                have con := Lbl.Same_any _ _ l o Pr7 L7.2 L8.2 fl fo
                rewrite [show sameB l o = false from HS.out] at con
                refine plist #[true, true, true, true, true, true, true, true, true, true, true, true, true, true, true, true, true, true, true, true, true, true, true, true, true, true, true, true, true, true, true, false, false, false] (by kernel_rfl) ?_
                refine pone 31 (by kernel_rfl) rfl fun K hK => ?_
                go_simp
                refine con.mono ?_
                rintro e Pr8 ⟨rfl, hb⟩
                have DP8 := DP7.trans (hb.mono DP7.size)
                replace L7 := L7.on hb
                replace L8 := L8.on hb
                replace L9 := L9.on hb
                clear hb con DP7
                refine hK _ _ ⟨L7.c0, L7.c1, L8.c0, L8.c1, L9.c0, L9.c1⟩ ?_
                clear hK K
                refine plist #[true, true, true, true, true, true, true, true, true, true, true, true, true, true, true, true, true, true, true, true, true, true, true, true, true, true, true, true, true, true, true, true, false, false] (by kernel_rfl) ?_
                refine pone 32 (by kernel_rfl) rfl fun K hK => ?_
                go_simp
                refine hK _ _ ⟨L7.c0, L7.c1, L8.c0, L8.c1, L9.c0, L9.c1⟩ ?_
                clear hK K
                refine plist #[true, true, true, true, true, true, true, true, true, true, true, true, true, true, true, true, true, true, true, true, true, true, true, true, true, true, true, true, true, true, true, true, true, false] (by kernel_rfl) ?_
                refine pone 33 (by kernel_rfl) rfl fun K hK => ?_
                go_simp
                refine hK _ _ ⟨L7.c0, L7.c1, L8.c0, L8.c1, L9.c0, L9.c1⟩ ?_
                clear hK K
                refine pdone (by kernel_rfl) ?_ _
                go_wp2_with fail
                go_meet
                exact ⟨rfl, DP8⟩
            | true =>
                refine plist #[true, true, true, true, true, true, true, true, true, true, true, true, true, true, true, true, true, true, true, true, true, true, true, true, true, true, true, false, false, true, true, false, false, false] (by kernel_rfl) ?_
                refine pone 27 (by kernel_rfl) rfl fun K hK => ?_
                go_simp
                refine con.mono ?_
                rintro e Pr7 ⟨rfl, hb⟩
                have DP7 := DP6.trans (hb.mono DP6.size)
                replace L7 := L7.on hb
                replace L8 := L8.on hb
                replace L9 := L9.on hb
                clear hb con DP6
                refine hK _ _ ⟨L7.c0, L7.c1, L8.c0, L8.c1, L9.c0, L9.c1⟩ ?_
                clear hK K
                refine plist #[true, true, true, true, true, true, true, true, true, true, true, true, true, true, true, true, true, true, true, true, true, true, true, true, true, true, true, true, false, true, true, false, false, false] (by kernel_rfl) ?_
                refine wpAnyH_take (i := 28) (v := (.bool true)) rfl (by kernel_rfl) (by kernel_rfl) (by kernel_rfl) (fun _ _ _ h => h) (.inl ⟨by kernel_rfl, ?_⟩) ⟨L7.c0, L7.c1, L8.c0, L8.c1, L9.c0, L9.c1⟩ ?_
                · rintro w ⟨h1, h2, h3, h4, h5, h6⟩; go_simp <;> omega
                have con := Lbl.Same_any _ _ l o Pr7 L7.2 L8.2 fl fo
                rewrite [show sameB l o = true from HS.out] at con
                refine plist #[true, true, true, true, true, true, true, true, true, true, true, true, true, true, true, true, true, true, true, true, true, true, true, true, true, true, true, true, true, true, true, false, false, false] (by kernel_rfl) ?_
                refine pone 31 (by kernel_rfl) rfl fun K hK => ?_
                go_simp
                refine con.mono ?_
                rintro e Pr8 ⟨rfl, hb⟩
                have DP8 := DP7.trans (hb.mono DP7.size)
                replace L7 := L7.on hb
                replace L8 := L8.on hb
                replace L9 := L9.on hb
                clear hb con DP7
                refine hK _ _ ⟨L7.c0, L7.c1, L8.c0, L8.c1, L9.c0, L9.c1⟩ ?_
                clear hK K
                refine plist #[true, true, true, true, true, true, true, true, true, true, true, true, true, true, true, true, true, true, true, true, true, true, true, true, true, true, true, true, true, true, true, true, false, false] (by kernel_rfl) ?_
                refine pone 32 (by kernel_rfl) rfl fun K hK => ?_
                go_simp
                refine hK _ _ ⟨L7.c0, L7.c1, L8.c0, L8.c1, L9.c0, L9.c1⟩ ?_
                clear hK K
                refine plist #[true, true, true, true, true, true, true, true, true, true, true, true, true, true, true, true, true, true, true, true, true, true, true, true, true, true, true, true, true, true, true, true, true, false] (by kernel_rfl) ?_
                refine pone 33 (by kernel_rfl) rfl fun K hK => ?_
                go_simp
                refine hK _ _ ⟨L7.c0, L7.c1, L8.c0, L8.c1, L9.c0, L9.c1⟩ ?_
                clear hK K
                refine pdone (by kernel_rfl) ?_ _
                go_wp2_with fail
                go_meet
                exact ⟨rfl, DP8⟩
  case rest =>
    obtain ⟨rfl, hb⟩ := hcut
    have B_8 := B_7.trans (hb.mono B_7.size)
    replace L7 := L7.on hb
    replace L8 := L8.on hb
    replace L9 := L9.on hb
    clear hb B_7 HT HS HLL
    generalize wc = X8 at *
    have con := HJC.out X8 L7.2 L8.2
    have x70 := L7.c0
    have x71 := L7.c1
    have x80 := L8.c0
    have x81 := L8.c1
    clear HJC
    go_wp2_with fail
    refine con.mono ?_
    rintro e X9 ⟨q10, n10, c10, r10, m10, d10, rfl, f1, f2, _, _, hb⟩
    have B_9 := B_8.trans (hb.mono B_8.size)
    replace L7 := L7.on hb
    replace L8 := L8.on hb
    replace L9 := L9.on hb
    have s10 : LabIs X9 (.agg #[.slice q10 n10 c10, .slice r10 m10 d10]) (labV rj) := ⟨_, _, _, _, _, _, rfl, f1, f2⟩
    clear con hb B_8 x70 x71 x80 x81 f1 f2
    obtain ⟨en, hen⟩ : ∃ n, labE rj = n := ⟨_, rfl⟩
    rewrite [hen]
    have HEN := Lib.hid hen
    clear hen
    obtain ⟨b10, hb10⟩ : ∃ b, X9.heap.size = b := ⟨_, rfl⟩
    obtain ⟨X10, hX10⟩ : ∃ Z, X9.alloc (.cells #[.slice q10 n10 c10, .slice r10 m10 d10] 28) = Z := ⟨_, rfl⟩
    have hb : Below X9.heap.size X9 X10 := by rw [← hX10]; exact below_alloc _
    have L10 : LX b10 q10 n10 c10 r10 m10 d10 (labV rj) X10 := by rw [← hX10, ← hb10]; exact LX.new s10
    have B_10 := B_9.trans (hb.mono B_9.size)
    replace L7 := L7.on hb
    replace L8 := L8.on hb
    replace L9 := L9.on hb
    have HX10 := Lib.hid hX10
    have HB10 := Lib.hid hb10
    clear hX10 hb10 s10 hb B_9
    go_upto_region 7 with fail
    rewrite [HB10.out, HX10.out]
    clear HB10 HX10
    go_cut [89] from 62 to 89 (fun s89 X => s89 = .bool false ∧ Below X10.heap.size X10 X)
    case first =>
      have D0 : Below X10.heap.size X10 X10 := Below.refl _ _
      by_cases hen : en = 0
      · obtain ⟨j, hj⟩ := HJE.out (HEN.out.trans hen)
        subst hen
        have h3 := HJ.out j hj
        have HJ1 := Lib.hid h3.1
        have HJ2 := Lib.hid h3.2.1
        have HJ3 := Lib.hid h3.2.2
        have fj : Few j := by have := HJF.out j hj; exact this
        subst hj
        replace L10 : LX b10 q10 n10 c10 r10 m10 d10 j X10 := L10
        clear h3 HEN
        refine pregion_any (fun X => X.cell? ⟨b7, 0, none⟩ = some (.slice q7 n7 c7) ∧ X.cell? ⟨b7, 1, none⟩ = some (.slice r7 m7 d7) ∧ X.cell? ⟨b7 + 1, 0, none⟩ = some (.slice q8 n8 c8) ∧ X.cell? ⟨b7 + 1, 1, none⟩ = some (.slice r8 m8 d8) ∧ X.cell? ⟨b7 + 1 + 1, 0, none⟩ = some (.slice q9 n9 c9) ∧ X.cell? ⟨b7 + 1 + 1, 1, none⟩ = some (.slice r9 m9 d9) ∧ X.cell? ⟨b10, 0, none⟩ = some (.slice q10 n10 c10) ∧ X.cell? ⟨b10, 1, none⟩ = some (.slice r10 m10 d10)) (by kernel_rfl) ?_
        have hb : Below X10.heap.size X10 X10.drew := ⟨rfl, rfl, rfl, Nat.le_refl _, fun _ _ => rfl⟩
        obtain ⟨Pr1, hXd⟩ : ∃ Z, X10.drew = Z := ⟨_, rfl⟩
        rw [hXd] at hb ⊢
        have DP1 := D0.trans (hb.mono D0.size)
        replace L7 := L7.on hb
        replace L8 := L8.on hb
        replace L9 := L9.on hb
        replace L10 := L10.on hb
        clear hb hXd
        refine pone 0 (by kernel_rfl) rfl fun K hK => ?_
        go_simp
        refine hK _ _ ⟨L7.c0, L7.c1, L8.c0, L8.c1, L9.c0, L9.c1, L10.c0, L10.c1⟩ ?_
        clear hK K
        refine plist #[true, false, false, false, false, false, false, false, false, false, false, false, false, false, false, false, false, false, false, false, false, false, false, false, false, false, false, false] (by kernel_rfl) ?_
        refine pone 1 (by kernel_rfl) rfl fun K hK => ?_
        go_simp
        refine hK _ _ ⟨L7.c0, L7.c1, L8.c0, L8.c1, L9.c0, L9.c1, L10.c0, L10.c1⟩ ?_
        clear hK K
        refine plist #[true, true, false, false, false, false, false, false, false, false, false, false, false, false, false, false, false, false, false, false, false, false, false, false, false, false, false, false] (by kernel_rfl) ?_
        refine pone 2 (by kernel_rfl) rfl fun K hK => ?_
        go_simp
        refine hK _ _ ⟨L7.c0, L7.c1, L8.c0, L8.c1, L9.c0, L9.c1, L10.c0, L10.c1⟩ ?_
        clear hK K
        refine plist #[true, true, true, false, false, false, false, false, false, false, false, false, false, false, false, false, false, false, false, false, false, false, false, false, false, false, false, false] (by kernel_rfl) ?_
        refine wpAnyH_take (i := 3) (v := (.agg #[.slice q7 n7 c7, .slice r7 m7 d7])) rfl (by kernel_rfl) (by kernel_rfl) (by kernel_rfl) (fun _ _ _ h => h) (.inl ⟨by kernel_rfl, ?_⟩) ⟨L7.c0, L7.c1, L8.c0, L8.c1, L9.c0, L9.c1, L10.c0, L10.c1⟩ ?_
        · rintro w ⟨h1, h2, h3, h4, h5, h6, h7, h8⟩; go_simp <;> omega
        refine plist #[true, true, true, true, false, false, false, false, false, false, false, false, false, false, false, false, false, false, false, false, false, false, false, false, false, false, false, false] (by kernel_rfl) ?_
        refine wpAnyH_take (i := 4) (v := (.agg #[.slice q10 n10 c10, .slice r10 m10 d10])) rfl (by kernel_rfl) (by kernel_rfl) (by kernel_rfl) (fun _ _ _ h => h) (.inl ⟨by kernel_rfl, ?_⟩) ⟨L7.c0, L7.c1, L8.c0, L8.c1, L9.c0, L9.c1, L10.c0, L10.c1⟩ ?_
        · rintro w ⟨h1, h2, h3, h4, h5, h6, h7, h8⟩; go_simp <;> omega
        have con := Lbl.Flows_any _ _ l j Pr1 L7.2 L10.2 fl fj
        rewrite [HJ1.out] at con
        refine plist #[true, true, true, true, true, false, false, false, false, false, false, false, false, false, false, false, false, false, false, false, false, false, false, false, false, false, false, false] (by kernel_rfl) ?_
        refine pone 5 (by kernel_rfl) rfl fun K hK => ?_
        go_simp
        refine con.mono ?_
        rintro e Pr2 ⟨rfl, hb⟩
        have DP2 := DP1.trans (hb.mono DP1.size)
        replace L7 := L7.on hb
        replace L8 := L8.on hb
        replace L9 := L9.on hb
        replace L10 := L10.on hb
        clear hb con DP1
        refine hK _ _ ⟨L7.c0, L7.c1, L8.c0, L8.c1, L9.c0, L9.c1, L10.c0, L10.c1⟩ ?_
        clear hK K
        refine plist #[true, true, true, true, true, true, false, false, false, false, false, false, false, false, false, false, false, false, false, false, false, false, false, false, false, false, false, false] (by kernel_rfl) ?_
        refine pone 6 (by kernel_rfl) rfl fun K hK => ?_
        go_simp
        refine hK _ _ ⟨L7.c0, L7.c1, L8.c0, L8.c1, L9.c0, L9.c1, L10.c0, L10.c1⟩ ?_
        clear hK K
        refine plist #[true, true, true, true, true, true, true, false, false, false, false, false, false, false, false, false, false, false, false, false, false, false, false, false, false, false, false, false] (by kernel_rfl) ?_
        refine pone 7 (by kernel_rfl) rfl fun K hK => ?_
        go_simp
        refine hK _ _ ⟨L7.c0, L7.c1, L8.c0, L8.c1, L9.c0, L9.c1, L10.c0, L10.c1⟩ ?_
        clear hK K
        refine plist #[true, true, true, true, true, true, true, true, false, false, false, false, false, false, false, false, false, false, false, false, false, false, false, false, false, false, false, false] (by kernel_rfl) ?_
        refine wpAnyH_take (i := 8) (v := (.agg #[.slice q8 n8 c8, .slice r8 m8 d8])) rfl (by kernel_rfl) (by kernel_rfl) (by kernel_rfl) (fun _ _ _ h => h) (.inl ⟨by kernel_rfl, ?_⟩) ⟨L7.c0, L7.c1, L8.c0, L8.c1, L9.c0, L9.c1, L10.c0, L10.c1⟩ ?_
        · rintro w ⟨h1, h2, h3, h4, h5, h6, h7, h8⟩; go_simp <;> omega
        refine plist #[true, true, true, true, true, true, true, true, true, false, false, false, false, false, false, false, false, false, false, false, false, false, false, false, false, false, false, false] (by kernel_rfl) ?_
        refine wpAnyH_take (i := 9) (v := (.agg #[.slice q10 n10 c10, .slice r10 m10 d10])) rfl (by kernel_rfl) (by kernel_rfl) (by kernel_rfl) (fun _ _ _ h => h) (.inl ⟨by kernel_rfl, ?_⟩) ⟨L7.c0, L7.c1, L8.c0, L8.c1, L9.c0, L9.c1, L10.c0, L10.c1⟩ ?_
        · rintro w ⟨h1, h2, h3, h4, h5, h6, h7, h8⟩; go_simp <;> omega
        have con := Lbl.Flows_any _ _ o j Pr2 L8.2 L10.2 fo fj
        rewrite [HJ2.out] at con
        refine plist #[true, true, true, true, true, true, true, true, true, true, false, false, false, false, false, false, false, false, false, false, false, false, false, false, false, false, false, false] (by kernel_rfl) ?_
        refine pone 10 (by kernel_rfl) rfl fun K hK => ?_
        go_simp
        refine con.mono ?_
        rintro e Pr3 ⟨rfl, hb⟩
        have DP3 := DP2.trans (hb.mono DP2.size)
        replace L7 := L7.on hb
        replace L8 := L8.on hb
        replace L9 := L9.on hb
        replace L10 := L10.on hb
        clear hb con DP2
        refine hK _ _ ⟨L7.c0, L7.c1, L8.c0, L8.c1, L9.c0, L9.c1, L10.c0, L10.c1⟩ ?_
        clear hK K
        refine plist #[true, true, true, true, true, true, true, true, true, true, true, false, false, false, false, false, false, false, false, false, false, false, false, false, false, false, false, false] (by kernel_rfl) ?_
        refine pone 11 (by kernel_rfl) rfl fun K hK => ?_
        go_simp
        refine hK _ _ ⟨L7.c0, L7.c1, L8.c0, L8.c1, L9.c0, L9.c1, L10.c0, L10.c1⟩ ?_
        clear hK K
        refine plist #[true, true, true, true, true, true, true, true, true, true, true, true, false, false, false, false, false, false, false, false, false, false, false, false, false, false, false, false] (by kernel_rfl) ?_
        refine pone 12 (by kernel_rfl) rfl fun K hK => ?_
        go_simp
        refine hK _ _ ⟨L7.c0, L7.c1, L8.c0, L8.c1, L9.c0, L9.c1, L10.c0, L10.c1⟩ ?_
        clear hK K
        refine plist #[true, true, true, true, true, true, true, true, true, true, true, true, true, false, false, false, false, false, false, false, false, false, false, false, false, false, false, false] (by kernel_rfl) ?_
        refine pone 13 (by kernel_rfl) rfl fun K hK => ?_
        go_simp
        refine hK _ _ ⟨L7.c0, L7.c1, L8.c0, L8.c1, L9.c0, L9.c1, L10.c0, L10.c1⟩ ?_
        clear hK K
        refine plist #[true, true, true, true, true, true, true, true, true, true, true, true, true, true, false, false, false, false, false, false, false, false, false, false, false, false, false, false] (by kernel_rfl) ?_
        refine wpAnyH_take (i := 14) (v := (.agg #[.slice q7 n7 c7, .slice r7 m7 d7])) rfl (by kernel_rfl) (by kernel_rfl) (by kernel_rfl) (fun _ _ _ h => h) (.inl ⟨by kernel_rfl, ?_⟩) ⟨L7.c0, L7.c1, L8.c0, L8.c1, L9.c0, L9.c1, L10.c0, L10.c1⟩ ?_
        · rintro w ⟨h1, h2, h3, h4, h5, h6, h7, h8⟩; go_simp <;> omega
        refine plist #[true, true, true, true, true, true, true, true, true, true, true, true, true, true, true, false, false, false, false, false, false, false, false, false, false, false, false, false] (by kernel_rfl) ?_
        refine wpAnyH_take (i := 15) (v := (.agg #[.slice q9 n9 c9, .slice r9 m9 d9])) rfl (by kernel_rfl) (by kernel_rfl) (by kernel_rfl) (fun _ _ _ h => h) (.inl ⟨by kernel_rfl, ?_⟩) ⟨L7.c0, L7.c1, L8.c0, L8.c1, L9.c0, L9.c1, L10.c0, L10.c1⟩ ?_
        · rintro w ⟨h1, h2, h3, h4, h5, h6, h7, h8⟩; go_simp <;> omega
        refine plist #[true, true, true, true, true, true, true, true, true, true, true, true, true, true, true, true, false, false, false, false, false, false, false, false, false, false, false, false] (by kernel_rfl) ?_
        refine wpAnyH_take (i := 22) (v := (.agg #[.slice q10 n10 c10, .slice r10 m10 d10])) rfl (by kernel_rfl) (by kernel_rfl) (by kernel_rfl) (fun _ _ _ h => h) (.inl ⟨by kernel_rfl, ?_⟩) ⟨L7.c0, L7.c1, L8.c0, L8.c1, L9.c0, L9.c1, L10.c0, L10.c1⟩ ?_
        · rintro w ⟨h1, h2, h3, h4, h5, h6, h7, h8⟩; go_simp <;> omega
        refine plist #[true, true, true, true, true, true, true, true, true, true, true, true, true, true, true, true, false, false, false, false, false, false, true, false, false, false, false, false] (by kernel_rfl) ?_
        refine wpAnyH_take (i := 23) (v := (.agg #[.slice q9 n9 c9, .slice r9 m9 d9])) rfl (by kernel_rfl) (by kernel_rfl) (by kernel_rfl) (fun _ _ _ h => h) (.inl ⟨by kernel_rfl, ?_⟩) ⟨L7.c0, L7.c1, L8.c0, L8.c1, L9.c0, L9.c1, L10.c0, L10.c1⟩ ?_
        · rintro w ⟨h1, h2, h3, h4, h5, h6, h7, h8⟩; go_simp <;> omega
        have con := Lbl.Flows_any _ _ l m Pr3 L7.2 L9.2 fl fm
        rewrite [HFD.out] at con
        cases FD with
        | false =>
            refine plist #[true, true, true, true, true, true, true, true, true, true, true, true, true, true, true, true, false, false, false, false, false, false, true, true, false, false, false, false] (by kernel_rfl) ?_
            refine pone 16 (by kernel_rfl) rfl fun K hK => ?_
            go_simp
            refine con.mono ?_
            rintro e Pr4 ⟨rfl, hb⟩
            have DP4 := DP3.trans (hb.mono DP3.size)
            replace L7 := L7.on hb
            replace L8 := L8.on hb
            replace L9 := L9.on hb
            replace L10 := L10.on hb
            clear hb con DP3
            refine hK _ _ ⟨L7.c0, L7.c1, L8.c0, L8.c1, L9.c0, L9.c1, L10.c0, L10.c1⟩ ?_
            clear hK K
            refine plist #[true, true, true, true, true, true, true, true, true, true, true, true, true, true, true, true, true, false, false, false, false, false, true, true, false, false, false, false] (by kernel_rfl) ?_
            refine pone 17 (by kernel_rfl) rfl fun K hK => ?_
            go_simp
            refine hK _ _ ⟨L7.c0, L7.c1, L8.c0, L8.c1, L9.c0, L9.c1, L10.c0, L10.c1⟩ ?_
            clear hK K
            refine plist #[true, true, true, true, true, true, true, true, true, true, true, true, true, true, true, true, true, true, false, false, false, false, true, true, false, false, false, false] (by kernel_rfl) ?_
            refine wpAnyH_take (i := 18) (v := (undef)) rfl (by kernel_rfl) (by kernel_rfl) (by kernel_rfl) (fun _ _ _ h => h) (.inr ⟨by kernel_rfl, rfl⟩) ⟨L7.c0, L7.c1, L8.c0, L8.c1, L9.c0, L9.c1, L10.c0, L10.c1⟩ ?_
            refine plist #[true, true, true, true, true, true, true, true, true, true, true, true, true, true, true, true, true, true, true, false, false, false, true, true, false, false, false, false] (by kernel_rfl) ?_
            refine pone 19 (by kernel_rfl) rfl fun K hK => ?_
            go_simp
            refine hK _ _ ⟨L7.c0, L7.c1, L8.c0, L8.c1, L9.c0, L9.c1, L10.c0, L10.c1⟩ ?_
            clear hK K
            refine plist #[true, true, true, true, true, true, true, true, true, true, true, true, true, true, true, true, true, true, true, true, false, false, true, true, false, false, false, false] (by kernel_rfl) ?_
            refine pone 20 (by kernel_rfl) rfl fun K hK => ?_
            go_simp
            refine hK _ _ ⟨L7.c0, L7.c1, L8.c0, L8.c1, L9.c0, L9.c1, L10.c0, L10.c1⟩ ?_
            clear hK K
            refine plist #[true, true, true, true, true, true, true, true, true, true, true, true, true, true, true, true, true, true, true, true, true, false, true, true, false, false, false, false] (by kernel_rfl) ?_
            refine wpAnyH_take (i := 21) (v := (.bool false)) rfl (by kernel_rfl) (by kernel_rfl) (by kernel_rfl) (fun _ _ _ h => h) (.inl ⟨by kernel_rfl, ?_⟩) ⟨L7.c0, L7.c1, L8.c0, L8.c1, L9.c0, L9.c1, L10.c0, L10.c1⟩ ?_
            · rintro w ⟨h1, h2, h3, h4, h5, h6, h7, h8⟩; go_simp <;> omega
            have con := Lbl.Flows_any _ _ j m Pr4 L10.2 L9.2 fj fm
            rewrite [show flowsB j m = false from HJ3.out.symm] at con
            refine plist #[true, true, true, true, true, true, true, true, true, true, true, true, true, true, true, true, true, true, true, true, true, true, true, true, false, false, false, false] (by kernel_rfl) ?_
            refine pone 24 (by kernel_rfl) rfl fun K hK => ?_
            go_simp
            refine con.mono ?_
            rintro e Pr5 ⟨rfl, hb⟩
            have DP5 := DP4.trans (hb.mono DP4.size)
            replace L7 := L7.on hb
            replace L8 := L8.on hb
            replace L9 := L9.on hb
            replace L10 := L10.on hb
            clear hb con DP4
            refine hK _ _ ⟨L7.c0, L7.c1, L8.c0, L8.c1, L9.c0, L9.c1, L10.c0, L10.c1⟩ ?_
            clear hK K
            refine plist #[true, true, true, true, true, true, true, true, true, true, true, true, true, true, true, true, true, true, true, true, true, true, true, true, true, false, false, false] (by kernel_rfl) ?_
            refine pone 25 (by kernel_rfl) rfl fun K hK => ?_
            go_simp
            refine hK _ _ ⟨L7.c0, L7.c1, L8.c0, L8.c1, L9.c0, L9.c1, L10.c0, L10.c1⟩ ?_
            clear hK K
            refine plist #[true, true, true, true, true, true, true, true, true, true, true, true, true, true, true, true, true, true, true, true, true, true, true, true, true, true, false, false] (by kernel_rfl) ?_
            refine pone 26 (by kernel_rfl) rfl fun K hK => ?_
            go_simp
            refine hK _ _ ⟨L7.c0, L7.c1, L8.c0, L8.c1, L9.c0, L9.c1, L10.c0, L10.c1⟩ ?_
            clear hK K
            refine plist #[true, true, true, true, true, true, true, true, true, true, true, true, true, true, true, true, true, true, true, true, true, true, true, true, true, true, true, false] (by kernel_rfl) ?_
            refine pone 27 (by kernel_rfl) rfl fun K hK => ?_
            go_simp
            refine hK _ _ ⟨L7.c0, L7.c1, L8.c0, L8.c1, L9.c0, L9.c1, L10.c0, L10.c1⟩ ?_
            clear hK K
            refine pdone (by kernel_rfl) ?_ _
            go_wp2_with fail
            go_meet
            exact ⟨rfl, DP5⟩
        | true =>
            refine plist #[true, true, true, true, true, true, true, true, true, true, true, true, true, true, true, true, false, false, false, false, false, false, true, true, false, false, false, false] (by kernel_rfl) ?_
            refine pone 16 (by kernel_rfl) rfl fun K hK => ?_
            go_simp
            refine con.mono ?_
            rintro e Pr4 ⟨rfl, hb⟩
            have DP4 := DP3.trans (hb.mono DP3.size)
            replace L7 := L7.on hb
            replace L8 := L8.on hb
            replace L9 := L9.on hb
            replace L10 := L10.on hb
            clear hb con DP3
            refine hK _ _ ⟨L7.c0, L7.c1, L8.c0, L8.c1, L9.c0, L9.c1, L10.c0, L10.c1⟩ ?_
            clear hK K
            refine plist #[true, true, true, true, true, true, true, true, true, true, true, true, true, true, true, true, true, false, false, false, false, false, true, true, false, false, false, false] (by kernel_rfl) ?_
            refine pone 17 (by kernel_rfl) rfl fun K hK => ?_
            go_simp
            refine hK _ _ ⟨L7.c0, L7.c1, L8.c0, L8.c1, L9.c0, L9.c1, L10.c0, L10.c1⟩ ?_
            clear hK K
            refine plist #[true, true, true, true, true, true, true, true, true, true, true, true, true, true, true, true, true, true, false, false, false, false, true, true, false, false, false, false] (by kernel_rfl) ?_
            refine wpAnyH_take (i := 18) (v := (.agg #[.slice q8 n8 c8, .slice r8 m8 d8])) rfl (by kernel_rfl) (by kernel_rfl) (by kernel_rfl) (fun _ _ _ h => h) (.inl ⟨by kernel_rfl, ?_⟩) ⟨L7.c0, L7.c1, L8.c0, L8.c1, L9.c0, L9.c1, L10.c0, L10.c1⟩ ?_
            · rintro w ⟨h1, h2, h3, h4, h5, h6, h7, h8⟩; go_simp <;> omega
            refine plist #[true, true, true, true, true, true, true, true, true, true, true, true, true, true, true, true, true, true, true, false, false, false, true, true, false, false, false, false] (by kernel_rfl) ?_
            refine wpAnyH_take (i := 19) (v := (.agg #[.slice q9 n9 c9, .slice r9 m9 d9])) rfl (by kernel_rfl) (by kernel_rfl) (by kernel_rfl) (fun _ _ _ h => h) (.inl ⟨by kernel_rfl, ?_⟩) ⟨L7.c0, L7.c1, L8.c0, L8.c1, L9.c0, L9.c1, L10.c0, L10.c1⟩ ?_
            · rintro w ⟨h1, h2, h3, h4, h5, h6, h7, h8⟩; go_simp <;> omega
            have con := Lbl.Flows_any _ _ o m Pr4 L8.2 L9.2 fo fm
            rewrite [HFB.out] at con
            cases FB with
            | false =>
                refine plist #[true, true, true, true, true, true, true, true, true, true, true, true, true, true, true, true, true, true, true, true, false, false, true, true, false, false, false, false] (by kernel_rfl) ?_
                refine pone 20 (by kernel_rfl) rfl fun K hK => ?_
                go_simp
                refine con.mono ?_
                rintro e Pr5 ⟨rfl, hb⟩
                have DP5 := DP4.trans (hb.mono DP4.size)
                replace L7 := L7.on hb
                replace L8 := L8.on hb
                replace L9 := L9.on hb
                replace L10 := L10.on hb
                clear hb con DP4
                refine hK _ _ ⟨L7.c0, L7.c1, L8.c0, L8.c1, L9.c0, L9.c1, L10.c0, L10.c1⟩ ?_
                clear hK K
                refine plist #[true, true, true, true, true, true, true, true, true, true, true, true, true, true, true, true, true, true, true, true, true, false, true, true, false, false, false, false] (by kernel_rfl) ?_
                refine wpAnyH_take (i := 21) (v := (.bool false)) rfl (by kernel_rfl) (by kernel_rfl) (by kernel_rfl) (fun _ _ _ h => h) (.inl ⟨by kernel_rfl, ?_⟩) ⟨L7.c0, L7.c1, L8.c0, L8.c1, L9.c0, L9.c1, L10.c0, L10.c1⟩ ?_
                · rintro w ⟨h1, h2, h3, h4, h5, h6, h7, h8⟩; go_simp <;> omega
                have con := Lbl.Flows_any _ _ j m Pr5 L10.2 L9.2 fj fm
                rewrite [show flowsB j m = false from HJ3.out.symm] at con
                refine plist #[true, true, true, true, true, true, true, true, true, true, true, true, true, true, true, true, true, true, true, true, true, true, true, true, false, false, false, false] (by kernel_rfl) ?_
                refine pone 24 (by kernel_rfl) rfl fun K hK => ?_
                go_simp
                refine con.mono ?_
                rintro e Pr6 ⟨rfl, hb⟩
                have DP6 := DP5.trans (hb.mono DP5.size)
                replace L7 := L7.on hb
                replace L8 := L8.on hb
                replace L9 := L9.on hb
                replace L10 := L10.on hb
                clear hb con DP5
                refine hK _ _ ⟨L7.c0, L7.c1, L8.c0, L8.c1, L9.c0, L9.c1, L10.c0, L10.c1⟩ ?_
                clear hK K
                refine plist #[true, true, true, true, true, true, true, true, true, true, true, true, true, true, true, true, true, true, true, true, true, true, true, true, true, false, false, false] (by kernel_rfl) ?_
                refine pone 25 (by kernel_rfl) rfl fun K hK => ?_
                go_simp
                refine hK _ _ ⟨L7.c0, L7.c1, L8.c0, L8.c1, L9.c0, L9.c1, L10.c0, L10.c1⟩ ?_
                clear hK K
                refine plist #[true, true, true, true, true, true, true, true, true, true, true, true, true, true, true, true, true, true, true, true, true, true, true, true, true, true, false, false] (by kernel_rfl) ?_
                refine pone 26 (by kernel_rfl) rfl fun K hK => ?_
                go_simp
                refine hK _ _ ⟨L7.c0, L7.c1, L8.c0, L8.c1, L9.c0, L9.c1, L10.c0, L10.c1⟩ ?_
                clear hK K
                refine plist #[true, true, true, true, true, true, true, true, true, true, true, true, true, true, true, true, true, true, true, true, true, true, true, true, true, true, true, false] (by kernel_rfl) ?_
                refine pone 27 (by kernel_rfl) rfl fun K hK => ?_
                go_simp
                refine hK _ _ ⟨L7.c0, L7.c1, L8.c0, L8.c1, L9.c0, L9.c1, L10.c0, L10.c1⟩ ?_
                clear hK K
                refine pdone (by kernel_rfl) ?_ _
                go_wp2_with fail
                go_meet
                exact ⟨rfl, DP6⟩
            | true =>
                refine plist #[true, true, true, true, true, true, true, true, true, true, true, true, true, true, true, true, true, true, true, true, false, false, true, true, false, false, false, false] (by kernel_rfl) ?_
                refine pone 20 (by kernel_rfl) rfl fun K hK => ?_
                go_simp
                refine con.mono ?_
                rintro e Pr5 ⟨rfl, hb⟩
                have DP5 := DP4.trans (hb.mono DP4.size)
                replace L7 := L7.on hb
                replace L8 := L8.on hb
                replace L9 := L9.on hb
                replace L10 := L10.on hb
                clear hb con DP4
                refine hK _ _ ⟨L7.c0, L7.c1, L8.c0, L8.c1, L9.c0, L9.c1, L10.c0, L10.c1⟩ ?_
                clear hK K
                refine plist #[true, true, true, true, true, true, true, true, true, true, true, true, true, true, true, true, true, true, true, true, true, false, true, true, false, false, false, false] (by kernel_rfl) ?_
                refine wpAnyH_take (i := 21) (v := (.bool true)) rfl (by kernel_rfl) (by kernel_rfl) (by kernel_rfl) (fun _ _ _ h => h) (.inl ⟨by kernel_rfl, ?_⟩) ⟨L7.c0, L7.c1, L8.c0, L8.c1, L9.c0, L9.c1, L10.c0, L10.c1⟩ ?_
                · rintro w ⟨h1, h2, h3, h4, h5, h6, h7, h8⟩; go_simp <;> omega
                have con := Lbl.Flows_any _ _ j m Pr5 L10.2 L9.2 fj fm
                rewrite [show flowsB j m = true from HJ3.out.symm] at con
                refine plist #[true, true, true, true, true, true, true, true, true, true, true, true, true, true, true, true, true, true, true, true, true, true, true, true, false, false, false, false] (by kernel_rfl) ?_
                refine pone 24 (by kernel_rfl) rfl fun K hK => ?_
                go_simp
                refine con.mono ?_
                rintro e Pr6 ⟨rfl, hb⟩
                have DP6 := DP5.trans (hb.mono DP5.size)
                replace L7 := L7.on hb
                replace L8 := L8.on hb
                replace L9 := L9.on hb
                replace L10 := L10.on hb
                clear hb con DP5
                refine hK _ _ ⟨L7.c0, L7.c1, L8.c0, L8.c1, L9.c0, L9.c1, L10.c0, L10.c1⟩ ?_
                clear hK K
                refine plist #[true, true, true, true, true, true, true, true, true, true, true, true, true, true, true, true, true, true, true, true, true, true, true, true, true, false, false, false] (by kernel_rfl) ?_
                refine pone 25 (by kernel_rfl) rfl fun K hK => ?_
                go_simp
                refine hK _ _ ⟨L7.c0, L7.c1, L8.c0, L8.c1, L9.c0, L9.c1, L10.c0, L10.c1⟩ ?_
                clear hK K
                refine plist #[true, true, true, true, true, true, true, true, true, true, true, true, true, true, true, true, true, true, true, true, true, true, true, true, true, true, false, false] (by kernel_rfl) ?_
                refine pone 26 (by kernel_rfl) rfl fun K hK => ?_
                go_simp
                refine hK _ _ ⟨L7.c0, L7.c1, L8.c0, L8.c1, L9.c0, L9.c1, L10.c0, L10.c1⟩ ?_
                clear hK K
                refine plist #[true, true, true, true, true, true, true, true, true, true, true, true, true, true, true, true, true, true, true, true, true, true, true, true, true, true, true, false] (by kernel_rfl) ?_
                refine pone 27 (by kernel_rfl) rfl fun K hK => ?_
                go_simp
                refine hK _ _ ⟨L7.c0, L7.c1, L8.c0, L8.c1, L9.c0, L9.c1, L10.c0, L10.c1⟩ ?_
                clear hK K
                refine pdone (by kernel_rfl) ?_ _
                go_wp2_with fail
                go_meet
                exact ⟨rfl, DP6⟩
      · have e1 : (en == 0) = false := beq_eq_false_iff_ne.2 hen
        refine pregion_any (fun X => X.cell? ⟨b7, 0, none⟩ = some (.slice q7 n7 c7) ∧ X.cell? ⟨b7, 1, none⟩ = some (.slice r7 m7 d7) ∧ X.cell? ⟨b7 + 1, 0, none⟩ = some (.slice q8 n8 c8) ∧ X.cell? ⟨b7 + 1, 1, none⟩ = some (.slice r8 m8 d8) ∧ X.cell? ⟨b7 + 1 + 1, 0, none⟩ = some (.slice q9 n9 c9) ∧ X.cell? ⟨b7 + 1 + 1, 1, none⟩ = some (.slice r9 m9 d9) ∧ X.cell? ⟨b10, 0, none⟩ = some (.slice q10 n10 c10) ∧ X.cell? ⟨b10, 1, none⟩ = some (.slice r10 m10 d10)) (by kernel_rfl) ?_
        have hb : Below X10.heap.size X10 X10.drew := ⟨rfl, rfl, rfl, Nat.le_refl _, fun _ _ => rfl⟩
        obtain ⟨Pr1, hXd⟩ : ∃ Z, X10.drew = Z := ⟨_, rfl⟩
        rw [hXd] at hb ⊢
        have DP1 := D0.trans (hb.mono D0.size)
        replace L7 := L7.on hb
        replace L8 := L8.on hb
        replace L9 := L9.on hb
        replace L10 := L10.on hb
        clear hb hXd
        refine pone 0 (by kernel_rfl) rfl fun K hK => ?_
        go_simp
        refine hK _ _ ⟨L7.c0, L7.c1, L8.c0, L8.c1, L9.c0, L9.c1, L10.c0, L10.c1⟩ ?_
        clear hK K
        refine plist #[true, false, false, false, false, false, false, false, false, false, false, false, false, false, false, false, false, false, false, false, false, false, false, false, false, false, false, false] (by kernel_rfl) ?_
        refine pone 1 (by kernel_rfl) rfl fun K hK => ?_
        go_simp
        refine hK _ _ ⟨L7.c0, L7.c1, L8.c0, L8.c1, L9.c0, L9.c1, L10.c0, L10.c1⟩ ?_
        clear hK K
        refine plist #[true, true, false, false, false, false, false, false, false, false, false, false, false, false, false, false, false, false, false, false, false, false, false, false, false, false, false, false] (by kernel_rfl) ?_
        refine pone 2 (by kernel_rfl) rfl fun K hK => ?_
        go_simp
        refine hK _ _ ⟨L7.c0, L7.c1, L8.c0, L8.c1, L9.c0, L9.c1, L10.c0, L10.c1⟩ ?_
        clear hK K
        refine plist #[true, true, true, false, false, false, false, false, false, false, false, false, false, false, false, false, false, false, false, false, false, false, false, false, false, false, false, false] (by kernel_rfl) ?_
        refine wpAnyH_take (i := 3) (v := (undef)) rfl (by kernel_rfl) (by kernel_rfl) (by kernel_rfl) (fun _ _ _ h => h) (.inr ⟨by kernel_rfl, rfl⟩) ⟨L7.c0, L7.c1, L8.c0, L8.c1, L9.c0, L9.c1, L10.c0, L10.c1⟩ ?_
        refine plist #[true, true, true, true, false, false, false, false, false, false, false, false, false, false, false, false, false, false, false, false, false, false, false, false, false, false, false, false] (by kernel_rfl) ?_
        refine pone 4 (by kernel_rfl) rfl fun K hK => ?_
        go_simp
        refine hK _ _ ⟨L7.c0, L7.c1, L8.c0, L8.c1, L9.c0, L9.c1, L10.c0, L10.c1⟩ ?_
        clear hK K
        refine plist #[true, true, true, true, true, false, false, false, false, false, false, false, false, false, false, false, false, false, false, false, false, false, false, false, false, false, false, false] (by kernel_rfl) ?_
        refine pone 5 (by kernel_rfl) rfl fun K hK => ?_
        go_simp
        refine hK _ _ ⟨L7.c0, L7.c1, L8.c0, L8.c1, L9.c0, L9.c1, L10.c0, L10.c1⟩ ?_
        clear hK K
        refine plist #[true, true, true, true, true, true, false, false, false, false, false, false, false, false, false, false, false, false, false, false, false, false, false, false, false, false, false, false] (by kernel_rfl) ?_
        refine pone 6 (by kernel_rfl) rfl fun K hK => ?_
        go_simp
        refine hK _ _ ⟨L7.c0, L7.c1, L8.c0, L8.c1, L9.c0, L9.c1, L10.c0, L10.c1⟩ ?_
        clear hK K
        refine plist #[true, true, true, true, true, true, true, false, false, false, false, false, false, false, false, false, false, false, false, false, false, false, false, false, false, false, false, false] (by kernel_rfl) ?_
        refine pone 7 (by kernel_rfl) rfl fun K hK => ?_
        go_simp
        refine hK _ _ ⟨L7.c0, L7.c1, L8.c0, L8.c1, L9.c0, L9.c1, L10.c0, L10.c1⟩ ?_
        clear hK K
        refine plist #[true, true, true, true, true, true, true, true, false, false, false, false, false, false, false, false, false, false, false, false, false, false, false, false, false, false, false, false] (by kernel_rfl) ?_
        refine wpAnyH_take (i := 8) (v := (undef)) rfl (by kernel_rfl) (by kernel_rfl) (by kernel_rfl) (fun _ _ _ h => h) (.inr ⟨by kernel_rfl, rfl⟩) ⟨L7.c0, L7.c1, L8.c0, L8.c1, L9.c0, L9.c1, L10.c0, L10.c1⟩ ?_
        refine plist #[true, true, true, true, true, true, true, true, true, false, false, false, false, false, false, false, false, false, false, false, false, false, false, false, false, false, false, false] (by kernel_rfl) ?_
        refine pone 9 (by kernel_rfl) rfl fun K hK => ?_
        go_simp
        refine hK _ _ ⟨L7.c0, L7.c1, L8.c0, L8.c1, L9.c0, L9.c1, L10.c0, L10.c1⟩ ?_
        clear hK K
        refine plist #[true, true, true, true, true, true, true, true, true, true, false, false, false, false, false, false, false, false, false, false, false, false, false, false, false, false, false, false] (by kernel_rfl) ?_
        refine pone 10 (by kernel_rfl) rfl fun K hK => ?_
        go_simp
        refine hK _ _ ⟨L7.c0, L7.c1, L8.c0, L8.c1, L9.c0, L9.c1, L10.c0, L10.c1⟩ ?_
        clear hK K
        refine plist #[true, true, true, true, true, true, true, true, true, true, true, false, false, false, false, false, false, false, false, false, false, false, false, false, false, false, false, false] (by kernel_rfl) ?_
        refine pone 11 (by kernel_rfl) rfl fun K hK => ?_
        go_simp
        refine hK _ _ ⟨L7.c0, L7.c1, L8.c0, L8.c1, L9.c0, L9.c1, L10.c0, L10.c1⟩ ?_
        clear hK K
        refine plist #[true, true, true, true, true, true, true, true, true, true, true, true, false, false, false, false, false, false, false, false, false, false, false, false, false, false, false, false] (by kernel_rfl) ?_
        refine pone 12 (by kernel_rfl) rfl fun K hK => ?_
        go_simp
        refine hK _ _ ⟨L7.c0, L7.c1, L8.c0, L8.c1, L9.c0, L9.c1, L10.c0, L10.c1⟩ ?_
        clear hK K
        refine plist #[true, true, true, true, true, true, true, true, true, true, true, true, true, false, false, false, false, false, false, false, false, false, false, false, false, false, false, false] (by kernel_rfl) ?_
        refine pone 13 (by kernel_rfl) rfl fun K hK => ?_
        go_simp
        refine hK _ _ ⟨L7.c0, L7.c1, L8.c0, L8.c1, L9.c0, L9.c1, L10.c0, L10.c1⟩ ?_
        clear hK K
        refine plist #[true, true, true, true, true, true, true, true, true, true, true, true, true, true, false, false, false, false, false, false, false, false, false, false, false, false, false, false] (by kernel_rfl) ?_
        refine wpAnyH_take (i := 14) (v := (undef)) rfl (by kernel_rfl) (by kernel_rfl) (by kernel_rfl) (fun _ _ _ h => h) (.inr ⟨by kernel_rfl, rfl⟩) ⟨L7.c0, L7.c1, L8.c0, L8.c1, L9.c0, L9.c1, L10.c0, L10.c1⟩ ?_
        refine plist #[true, true, true, true, true, true, true, true, true, true, true, true, true, true, true, false, false, false, false, false, false, false, false, false, false, false, false, false] (by kernel_rfl) ?_
        refine wpAnyH_take (i := 15) (v := (undef)) rfl (by kernel_rfl) (by kernel_rfl) (by kernel_rfl) (fun _ _ _ h => h) (.inr ⟨by kernel_rfl, rfl⟩) ⟨L7.c0, L7.c1, L8.c0, L8.c1, L9.c0, L9.c1, L10.c0, L10.c1⟩ ?_
        refine plist #[true, true, true, true, true, true, true, true, true, true, true, true, true, true, true, true, false, false, false, false, false, false, false, false, false, false, false, false] (by kernel_rfl) ?_
        refine wpAnyH_take (i := 16) (v := (undef)) rfl (by kernel_rfl) (by kernel_rfl) (by kernel_rfl) (fun _ _ _ h => h) (.inr ⟨by kernel_rfl, rfl⟩) ⟨L7.c0, L7.c1, L8.c0, L8.c1, L9.c0, L9.c1, L10.c0, L10.c1⟩ ?_
        refine plist #[true, true, true, true, true, true, true, true, true, true, true, true, true, true, true, true, true, false, false, false, false, false, false, false, false, false, false, false] (by kernel_rfl) ?_
        refine wpAnyH_take (i := 17) (v := (undef)) rfl (by kernel_rfl) (by kernel_rfl) (by kernel_rfl) (fun _ _ _ h => h) (.inr ⟨by kernel_rfl, rfl⟩) ⟨L7.c0, L7.c1, L8.c0, L8.c1, L9.c0, L9.c1, L10.c0, L10.c1⟩ ?_
        refine plist #[true, true, true, true, true, true, true, true, true, true, true, true, true, true, true, true, true, true, false, false, false, false, false, false, false, false, false, false] (by kernel_rfl) ?_
        refine wpAnyH_take (i := 18) (v := (undef)) rfl (by kernel_rfl) (by kernel_rfl) (by kernel_rfl) (fun _ _ _ h => h) (.inr ⟨by kernel_rfl, rfl⟩) ⟨L7.c0, L7.c1, L8.c0, L8.c1, L9.c0, L9.c1, L10.c0, L10.c1⟩ ?_
        refine plist #[true, true, true, true, true, true, true, true, true, true, true, true, true, true, true, true, true, true, true, false, false, false, false, false, false, false, false, false] (by kernel_rfl) ?_
        refine wpAnyH_take (i := 19) (v := (undef)) rfl (by kernel_rfl) (by kernel_rfl) (by kernel_rfl) (fun _ _ _ h => h) (.inr ⟨by kernel_rfl, rfl⟩) ⟨L7.c0, L7.c1, L8.c0, L8.c1, L9.c0, L9.c1, L10.c0, L10.c1⟩ ?_
        refine plist #[true, true, true, true, true, true, true, true, true, true, true, true, true, true, true, true, true, true, true, true, false, false, false, false, false, false, false, false] (by kernel_rfl) ?_
        refine wpAnyH_take (i := 20) (v := (undef)) rfl (by kernel_rfl) (by kernel_rfl) (by kernel_rfl) (fun _ _ _ h => h) (.inr ⟨by kernel_rfl, rfl⟩) ⟨L7.c0, L7.c1, L8.c0, L8.c1, L9.c0, L9.c1, L10.c0, L10.c1⟩ ?_
        refine plist #[true, true, true, true, true, true, true, true, true, true, true, true, true, true, true, true, true, true, true, true, true, false, false, false, false, false, false, false] (by kernel_rfl) ?_
        refine wpAnyH_take (i := 21) (v := (undef)) rfl (by kernel_rfl) (by kernel_rfl) (by kernel_rfl) (fun _ _ _ h => h) (.inr ⟨by kernel_rfl, rfl⟩) ⟨L7.c0, L7.c1, L8.c0, L8.c1, L9.c0, L9.c1, L10.c0, L10.c1⟩ ?_
        refine plist #[true, true, true, true, true, true, true, true, true, true, true, true, true, true, true, true, true, true, true, true, true, true, false, false, false, false, false, false] (by kernel_rfl) ?_
        refine wpAnyH_take (i := 22) (v := (undef)) rfl (by kernel_rfl) (by kernel_rfl) (by kernel_rfl) (fun _ _ _ h => h) (.inr ⟨by kernel_rfl, rfl⟩) ⟨L7.c0, L7.c1, L8.c0, L8.c1, L9.c0, L9.c1, L10.c0, L10.c1⟩ ?_
        refine plist #[true, true, true, true, true, true, true, true, true, true, true, true, true, true, true, true, true, true, true, true, true, true, true, false, false, false, false, false] (by kernel_rfl) ?_
        refine pone 23 (by kernel_rfl) rfl fun K hK => ?_
        go_simp
        refine hK _ _ ⟨L7.c0, L7.c1, L8.c0, L8.c1, L9.c0, L9.c1, L10.c0, L10.c1⟩ ?_
        clear hK K
        refine plist #[true, true, true, true, true, true, true, true, true, true, true, true, true, true, true, true, true, true, true, true, true, true, true, true, false, false, false, false] (by kernel_rfl) ?_
        refine pone 24 (by kernel_rfl) rfl fun K hK => ?_
        go_simp
        refine hK _ _ ⟨L7.c0, L7.c1, L8.c0, L8.c1, L9.c0, L9.c1, L10.c0, L10.c1⟩ ?_
        clear hK K
        refine plist #[true, true, true, true, true, true, true, true, true, true, true, true, true, true, true, true, true, true, true, true, true, true, true, true, true, false, false, false] (by kernel_rfl) ?_
        refine pone 25 (by kernel_rfl) rfl fun K hK => ?_
        go_simp
        refine hK _ _ ⟨L7.c0, L7.c1, L8.c0, L8.c1, L9.c0, L9.c1, L10.c0, L10.c1⟩ ?_
        clear hK K
        refine plist #[true, true, true, true, true, true, true, true, true, true, true, true, true, true, true, true, true, true, true, true, true, true, true, true, true, true, false, false] (by kernel_rfl) ?_
        refine pone 26 (by kernel_rfl) rfl fun K hK => ?_
        go_simp
        refine hK _ _ ⟨L7.c0, L7.c1, L8.c0, L8.c1, L9.c0, L9.c1, L10.c0, L10.c1⟩ ?_
        clear hK K
        refine plist #[true, true, true, true, true, true, true, true, true, true, true, true, true, true, true, true, true, true, true, true, true, true, true, true, true, true, true, false] (by kernel_rfl) ?_
        refine pone 27 (by kernel_rfl) rfl fun K hK => ?_
        go_simp
        refine hK _ _ ⟨L7.c0, L7.c1, L8.c0, L8.c1, L9.c0, L9.c1, L10.c0, L10.c1⟩ ?_
        clear hK K
        refine pdone (by kernel_rfl) ?_ _
        go_wp2_with fail
        go_meet
        exact ⟨rfl, DP1⟩
    case rest =>
    obtain ⟨rfl, hb⟩ := hcut
    have B_11 := B_10.trans (hb.mono B_10.size)
    replace L7 := L7.on hb
    replace L8 := L8.on hb
    replace L9 := L9.on hb
    clear hb B_10 HJE HJ HJF HEN L10
    generalize wc = X11 at *
    have con := HMC.out X11 L7.2 L8.2
    have x70 := L7.c0
    have x71 := L7.c1
    have x80 := L8.c0
    have x81 := L8.c1
    clear HMC
    go_wp2_with fail
    refine con.mono ?_
    rintro e X12 ⟨q12, n12, c12, r12, m12, d12, rfl, f1, f2, _, _, hb⟩
    have B_12 := B_11.trans (hb.mono B_11.size)
    replace L7 := L7.on hb
    replace L8 := L8.on hb
    replace L9 := L9.on hb
    have s12 : LabIs X12 (.agg #[.slice q12 n12 c12, .slice r12 m12 d12]) (labV rm) := ⟨_, _, _, _, _, _, rfl, f1, f2⟩
    clear con hb B_11 x70 x71 x80 x81 f1 f2
    obtain ⟨en, hen⟩ : ∃ n, labE rm = n := ⟨_, rfl⟩
    rewrite [hen]
    have HEN := Lib.hid hen
    clear hen
    obtain ⟨b12, hb12⟩ : ∃ b, X12.heap.size = b := ⟨_, rfl⟩
    obtain ⟨X13, hX13⟩ : ∃ Z, X12.alloc (.cells #[.slice q12 n12 c12, .slice r12 m12 d12] 28) = Z := ⟨_, rfl⟩
    have hb : Below X12.heap.size X12 X13 := by rw [← hX13]; exact below_alloc _
    have L12 : LX b12 q12 n12 c12 r12 m12 d12 (labV rm) X13 := by rw [← hX13, ← hb12]; exact LX.new s12
    have B_13 := B_12.trans (hb.mono B_12.size)
    replace L7 := L7.on hb
    replace L8 := L8.on hb
    replace L9 := L9.on hb
    have HX13 := Lib.hid hX13
    have HB12 := Lib.hid hb12
    clear hX13 hb12 s12 hb B_12
    go_upto_region 10 with fail
    rewrite [HB12.out, HX13.out]
    clear HB12 HX13
    go_cut [123] from 96 to 123 (fun s123 X => s123 = .bool false ∧ Below X13.heap.size X13 X)
    case first =>
      have D0 : Below X13.heap.size X13 X13 := Below.refl _ _
      by_cases hen : en = 0
      · obtain ⟨j, hj⟩ := HME.out (HEN.out.trans hen)
        subst hen
        have h3 := HM.out j hj
        have HJ1 := Lib.hid h3.1
        have HJ2 := Lib.hid h3.2.1
        have HJ3 := Lib.hid h3.2.2
        have fj : Few j := by have := HMF.out j hj; exact this
        subst hj
        replace L12 : LX b12 q12 n12 c12 r12 m12 d12 j X13 := L12
        clear h3 HEN
        refine pregion_any (fun X => X.cell? ⟨b7, 0, none⟩ = some (.slice q7 n7 c7) ∧ X.cell? ⟨b7, 1, none⟩ = some (.slice r7 m7 d7) ∧ X.cell? ⟨b7 + 1, 0, none⟩ = some (.slice q8 n8 c8) ∧ X.cell? ⟨b7 + 1, 1, none⟩ = some (.slice r8 m8 d8) ∧ X.cell? ⟨b7 + 1 + 1, 0, none⟩ = some (.slice q9 n9 c9) ∧ X.cell? ⟨b7 + 1 + 1, 1, none⟩ = some (.slice r9 m9 d9) ∧ X.cell? ⟨b12, 0, none⟩ = some (.slice q12 n12 c12) ∧ X.cell? ⟨b12, 1, none⟩ = some (.slice r12 m12 d12)) (by kernel_rfl) ?_
        have hb : Below X13.heap.size X13 X13.drew := ⟨rfl, rfl, rfl, Nat.le_refl _, fun _ _ => rfl⟩
        obtain ⟨Pr1, hXd⟩ : ∃ Z, X13.drew = Z := ⟨_, rfl⟩
        rw [hXd] at hb ⊢
        have DP1 := D0.trans (hb.mono D0.size)
        replace L7 := L7.on hb
        replace L8 := L8.on hb
        replace L9 := L9.on hb
        replace L12 := L12.on hb
        clear hb hXd
        refine pone 0 (by kernel_rfl) rfl fun K hK => ?_
        go_simp
        refine hK _ _ ⟨L7.c0, L7.c1, L8.c0, L8.c1, L9.c0, L9.c1, L12.c0, L12.c1⟩ ?_
        clear hK K
        refine plist #[true, false, false, false, false, false, false, false, false, false, false, false, false, false, false, false, false, false, false, false, false, false, false, false, false, false, false, false] (by kernel_rfl) ?_
        refine pone 1 (by kernel_rfl) rfl fun K hK => ?_
        go_simp
        refine hK _ _ ⟨L7.c0, L7.c1, L8.c0, L8.c1, L9.c0, L9.c1, L12.c0, L12.c1⟩ ?_
        clear hK K
        refine plist #[true, true, false, false, false, false, false, false, false, false, false, false, false, false, false, false, false, false, false, false, false, false, false, false, false, false, false, false] (by kernel_rfl) ?_
        refine pone 2 (by kernel_rfl) rfl fun K hK => ?_
        go_simp
        refine hK _ _ ⟨L7.c0, L7.c1, L8.c0, L8.c1, L9.c0, L9.c1, L12.c0, L12.c1⟩ ?_
        clear hK K
        refine plist #[true, true, true, false, false, false, false, false, false, false, false, false, false, false, false, false, false, false, false, false, false, false, false, false, false, false, false, false] (by kernel_rfl) ?_
        refine wpAnyH_take (i := 3) (v := (.agg #[.slice q12 n12 c12, .slice r12 m12 d12])) rfl (by kernel_rfl) (by kernel_rfl) (by kernel_rfl) (fun _ _ _ h => h) (.inl ⟨by kernel_rfl, ?_⟩) ⟨L7.c0, L7.c1, L8.c0, L8.c1, L9.c0, L9.c1, L12.c0, L12.c1⟩ ?_
        · rintro w ⟨h1, h2, h3, h4, h5, h6, h7, h8⟩; go_simp <;> omega
        refine plist #[true, true, true, true, false, false, false, false, false, false, false, false, false, false, false, false, false, false, false, false, false, false, false, false, false, false, false, false] (by kernel_rfl) ?_
        refine wpAnyH_take (i := 4) (v := (.agg #[.slice q7 n7 c7, .slice r7 m7 d7])) rfl (by kernel_rfl) (by kernel_rfl) (by kernel_rfl) (fun _ _ _ h => h) (.inl ⟨by kernel_rfl, ?_⟩) ⟨L7.c0, L7.c1, L8.c0, L8.c1, L9.c0, L9.c1, L12.c0, L12.c1⟩ ?_
        · rintro w ⟨h1, h2, h3, h4, h5, h6, h7, h8⟩; go_simp <;> omega
        have con := Lbl.Flows_any _ _ j l Pr1 L12.2 L7.2 fj fl
        rewrite [HJ1.out] at con
        refine plist #[true, true, true, true, true, false, false, false, false, false, false, false, false, false, false, false, false, false, false, false, false, false, false, false, false, false, false, false] (by kernel_rfl) ?_
        refine pone 5 (by kernel_rfl) rfl fun K hK => ?_
        go_simp
        refine con.mono ?_
        rintro e Pr2 ⟨rfl, hb⟩
        have DP2 := DP1.trans (hb.mono DP1.size)
        replace L7 := L7.on hb
        replace L8 := L8.on hb
        replace L9 := L9.on hb
        replace L12 := L12.on hb
        clear hb con DP1
        refine hK _ _ ⟨L7.c0, L7.c1, L8.c0, L8.c1, L9.c0, L9.c1, L12.c0, L12.c1⟩ ?_
        clear hK K
        refine plist #[true, true, true, true, true, true, false, false, false, false, false, false, false, false, false, false, false, false, false, false, false, false, false, false, false, false, false, false] (by kernel_rfl) ?_
        refine pone 6 (by kernel_rfl) rfl fun K hK => ?_
        go_simp
        refine hK _ _ ⟨L7.c0, L7.c1, L8.c0, L8.c1, L9.c0, L9.c1, L12.c0, L12.c1⟩ ?_
        clear hK K
        refine plist #[true, true, true, true, true, true, true, false, false, false, false, false, false, false, false, false, false, false, false, false, false, false, false, false, false, false, false, false] (by kernel_rfl) ?_
        refine pone 7 (by kernel_rfl) rfl fun K hK => ?_
        go_simp
        refine hK _ _ ⟨L7.c0, L7.c1, L8.c0, L8.c1, L9.c0, L9.c1, L12.c0, L12.c1⟩ ?_
        clear hK K
        refine plist #[true, true, true, true, true, true, true, true, false, false, false, false, false, false, false, false, false, false, false, false, false, false, false, false, false, false, false, false] (by kernel_rfl) ?_
        refine wpAnyH_take (i := 8) (v := (.agg #[.slice q12 n12 c12, .slice r12 m12 d12])) rfl (by kernel_rfl) (by kernel_rfl) (by kernel_rfl) (fun _ _ _ h => h) (.inl ⟨by kernel_rfl, ?_⟩) ⟨L7.c0, L7.c1, L8.c0, L8.c1, L9.c0, L9.c1, L12.c0, L12.c1⟩ ?_
        · rintro w ⟨h1, h2, h3, h4, h5, h6, h7, h8⟩; go_simp <;> omega
        refine plist #[true, true, true, true, true, true, true, true, true, false, false, false, false, false, false, false, false, false, false, false, false, false, false, false, false, false, false, false] (by kernel_rfl) ?_
        refine wpAnyH_take (i := 9) (v := (.agg #[.slice q8 n8 c8, .slice r8 m8 d8])) rfl (by kernel_rfl) (by kernel_rfl) (by kernel_rfl) (fun _ _ _ h => h) (.inl ⟨by kernel_rfl, ?_⟩) ⟨L7.c0, L7.c1, L8.c0, L8.c1, L9.c0, L9.c1, L12.c0, L12.c1⟩ ?_
        · rintro w ⟨h1, h2, h3, h4, h5, h6, h7, h8⟩; go_simp <;> omega
        have con := Lbl.Flows_any _ _ j o Pr2 L12.2 L8.2 fj fo
        rewrite [HJ2.out] at con
        refine plist #[true, true, true, true, true, true, true, true, true, true, false, false, false, false, false, false, false, false, false, false, false, false, false, false, false, false, false, false] (by kernel_rfl) ?_
        refine pone 10 (by kernel_rfl) rfl fun K hK => ?_
        go_simp
        refine con.mono ?_
        rintro e Pr3 ⟨rfl, hb⟩
        have DP3 := DP2.trans (hb.mono DP2.size)
        replace L7 := L7.on hb
        replace L8 := L8.on hb
        replace L9 := L9.on hb
        replace L12 := L12.on hb
        clear hb con DP2
        refine hK _ _ ⟨L7.c0, L7.c1, L8.c0, L8.c1, L9.c0, L9.c1, L12.c0, L12.c1⟩ ?_
        clear hK K
        refine plist #[true, true, true, true, true, true, true, true, true, true, true, false, false, false, false, false, false, false, false, false, false, false, false, false, false, false, false, false] (by kernel_rfl) ?_
        refine pone 11 (by kernel_rfl) rfl fun K hK => ?_
        go_simp
        refine hK _ _ ⟨L7.c0, L7.c1, L8.c0, L8.c1, L9.c0, L9.c1, L12.c0, L12.c1⟩ ?_
        clear hK K
        refine plist #[true, true, true, true, true, true, true, true, true, true, true, true, false, false, false, false, false, false, false, false, false, false, false, false, false, false, false, false] (by kernel_rfl) ?_
        refine pone 12 (by kernel_rfl) rfl fun K hK => ?_
        go_simp
        refine hK _ _ ⟨L7.c0, L7.c1, L8.c0, L8.c1, L9.c0, L9.c1, L12.c0, L12.c1⟩ ?_
        clear hK K
        refine plist #[true, true, true, true, true, true, true, true, true, true, true, true, true, false, false, false, false, false, false, false, false, false, false, false, false, false, false, false] (by kernel_rfl) ?_
        refine pone 13 (by kernel_rfl) rfl fun K hK => ?_
        go_simp
        refine hK _ _ ⟨L7.c0, L7.c1, L8.c0, L8.c1, L9.c0, L9.c1, L12.c0, L12.c1⟩ ?_
        clear hK K
        refine plist #[true, true, true, true, true, true, true, true, true, true, true, true, true, true, false, false, false, false, false, false, false, false, false, false, false, false, false, false] (by kernel_rfl) ?_
        refine wpAnyH_take (i := 14) (v := (.agg #[.slice q9 n9 c9, .slice r9 m9 d9])) rfl (by kernel_rfl) (by kernel_rfl) (by kernel_rfl) (fun _ _ _ h => h) (.inl ⟨by kernel_rfl, ?_⟩) ⟨L7.c0, L7.c1, L8.c0, L8.c1, L9.c0, L9.c1, L12.c0, L12.c1⟩ ?_
        · rintro w ⟨h1, h2, h3, h4, h5, h6, h7, h8⟩; go_simp <;> omega
        refine plist #[true, true, true, true, true, true, true, true, true, true, true, true, true, true, true, false, false, false, false, false, false, false, false, false, false, false, false, false] (by kernel_rfl) ?_
        refine wpAnyH_take (i := 15) (v := (.agg #[.slice q7 n7 c7, .slice r7 m7 d7])) rfl (by kernel_rfl) (by kernel_rfl) (by kernel_rfl) (fun _ _ _ h => h) (.inl ⟨by kernel_rfl, ?_⟩) ⟨L7.c0, L7.c1, L8.c0, L8.c1, L9.c0, L9.c1, L12.c0, L12.c1⟩ ?_
        · rintro w ⟨h1, h2, h3, h4, h5, h6, h7, h8⟩; go_simp <;> omega
        refine plist #[true, true, true, true, true, true, true, true, true, true, true, true, true, true, true, true, false, false, false, false, false, false, false, false, false, false, false, false] (by kernel_rfl) ?_
        refine wpAnyH_take (i := 22) (v := (.agg #[.slice q9 n9 c9, .slice r9 m9 d9])) rfl (by kernel_rfl) (by kernel_rfl) (by kernel_rfl) (fun _ _ _ h => h) (.inl ⟨by kernel_rfl, ?_⟩) ⟨L7.c0, L7.c1, L8.c0, L8.c1, L9.c0, L9.c1, L12.c0, L12.c1⟩ ?_
        · rintro w ⟨h1, h2, h3, h4, h5, h6, h7, h8⟩; go_simp <;> omega
        refine plist #[true, true, true, true, true, true, true, true, true, true, true, true, true, true, true, true, false, false, false, false, false, false, true, false, false, false, false, false] (by kernel_rfl) ?_
        refine wpAnyH_take (i := 23) (v := (.agg #[.slice q12 n12 c12, .slice r12 m12 d12])) rfl (by kernel_rfl) (by kernel_rfl) (by kernel_rfl) (fun _ _ _ h => h) (.inl ⟨by kernel_rfl, ?_⟩) ⟨L7.c0, L7.c1, L8.c0, L8.c1, L9.c0, L9.c1, L12.c0, L12.c1⟩ ?_
        · rintro w ⟨h1, h2, h3, h4, h5, h6, h7, h8⟩; go_simp <;> omega
        have con := Lbl.Flows_any _ _ m l Pr3 L9.2 L7.2 fm fl
        rewrite [HFE.out] at con
        cases FE with
        | false =>
            refine plist #[true, true, true, true, true, true, true, true, true, true, true, true, true, true, true, true, false, false, false, false, false, false, true, true, false, false, false, false] (by kernel_rfl) ?_
            refine pone 16 (by kernel_rfl) rfl fun K hK => ?_
            go_simp
            refine con.mono ?_
            rintro e Pr4 ⟨rfl, hb⟩
            have DP4 := DP3.trans (hb.mono DP3.size)
            replace L7 := L7.on hb
            replace L8 := L8.on hb
            replace L9 := L9.on hb
            replace L12 := L12.on hb
            clear hb con DP3
            refine hK _ _ ⟨L7.c0, L7.c1, L8.c0, L8.c1, L9.c0, L9.c1, L12.c0, L12.c1⟩ ?_
            clear hK K
            refine plist #[true, true, true, true, true, true, true, true, true, true, true, true, true, true, true, true, true, false, false, false, false, false, true, true, false, false, false, false] (by kernel_rfl) ?_
            refine pone 17 (by kernel_rfl) rfl fun K hK => ?_
            go_simp
            refine hK _ _ ⟨L7.c0, L7.c1, L8.c0, L8.c1, L9.c0, L9.c1, L12.c0, L12.c1⟩ ?_
            clear hK K
            refine plist #[true, true, true, true, true, true, true, true, true, true, true, true, true, true, true, true, true, true, false, false, false, false, true, true, false, false, false, false] (by kernel_rfl) ?_
            refine wpAnyH_take (i := 18) (v := (undef)) rfl (by kernel_rfl) (by kernel_rfl) (by kernel_rfl) (fun _ _ _ h => h) (.inr ⟨by kernel_rfl, rfl⟩) ⟨L7.c0, L7.c1, L8.c0, L8.c1, L9.c0, L9.c1, L12.c0, L12.c1⟩ ?_
            refine plist #[true, true, true, true, true, true, true, true, true, true, true, true, true, true, true, true, true, true, true, false, false, false, true, true, false, false, false, false] (by kernel_rfl) ?_
            refine pone 19 (by kernel_rfl) rfl fun K hK => ?_
            go_simp
            refine hK _ _ ⟨L7.c0, L7.c1, L8.c0, L8.c1, L9.c0, L9.c1, L12.c0, L12.c1⟩ ?_
            clear hK K
            refine plist #[true, true, true, true, true, true, true, true, true, true, true, true, true, true, true, true, true, true, true, true, false, false, true, true, false, false, false, false] (by kernel_rfl) ?_
            refine pone 20 (by kernel_rfl) rfl fun K hK => ?_
            go_simp
            refine hK _ _ ⟨L7.c0, L7.c1, L8.c0, L8.c1, L9.c0, L9.c1, L12.c0, L12.c1⟩ ?_
            clear hK K
            refine plist #[true, true, true, true, true, true, true, true, true, true, true, true, true, true, true, true, true, true, true, true, true, false, true, true, false, false, false, false] (by kernel_rfl) ?_
            refine wpAnyH_take (i := 21) (v := (.bool false)) rfl (by kernel_rfl) (by kernel_rfl) (by kernel_rfl) (fun _ _ _ h => h) (.inl ⟨by kernel_rfl, ?_⟩) ⟨L7.c0, L7.c1, L8.c0, L8.c1, L9.c0, L9.c1, L12.c0, L12.c1⟩ ?_
            · rintro w ⟨h1, h2, h3, h4, h5, h6, h7, h8⟩; go_simp <;> omega
            have con := Lbl.Flows_any _ _ m j Pr4 L9.2 L12.2 fm fj
            rewrite [show flowsB m j = false from HJ3.out.symm] at con
            refine plist #[true, true, true, true, true, true, true, true, true, true, true, true, true, true, true, true, true, true, true, true, true, true, true, true, false, false, false, false] (by kernel_rfl) ?_
            refine pone 24 (by kernel_rfl) rfl fun K hK => ?_
            go_simp
            refine con.mono ?_
            rintro e Pr5 ⟨rfl, hb⟩
            have DP5 := DP4.trans (hb.mono DP4.size)
            replace L7 := L7.on hb
            replace L8 := L8.on hb
            replace L9 := L9.on hb
            replace L12 := L12.on hb
            clear hb con DP4
            refine hK _ _ ⟨L7.c0, L7.c1, L8.c0, L8.c1, L9.c0, L9.c1, L12.c0, L12.c1⟩ ?_
            clear hK K
            refine plist #[true, true, true, true, true, true, true, true, true, true, true, true, true, true, true, true, true, true, true, true, true, true, true, true, true, false, false, false] (by kernel_rfl) ?_
            refine pone 25 (by kernel_rfl) rfl fun K hK => ?_
            go_simp
            refine hK _ _ ⟨L7.c0, L7.c1, L8.c0, L8.c1, L9.c0, L9.c1, L12.c0, L12.c1⟩ ?_
            clear hK K
            refine plist #[true, true, true, true, true, true, true, true, true, true, true, true, true, true, true, true, true, true, true, true, true, true, true, true, true, true, false, false] (by kernel_rfl) ?_
            refine pone 26 (by kernel_rfl) rfl fun K hK => ?_
            go_simp
            refine hK _ _ ⟨L7.c0, L7.c1, L8.c0, L8.c1, L9.c0, L9.c1, L12.c0, L12.c1⟩ ?_
            clear hK K
            refine plist #[true, true, true, true, true, true, true, true, true, true, true, true, true, true, true, true, true, true, true, true, true, true, true, true, true, true, true, false] (by kernel_rfl) ?_
            refine pone 27 (by kernel_rfl) rfl fun K hK => ?_
            go_simp
            refine hK _ _ ⟨L7.c0, L7.c1, L8.c0, L8.c1, L9.c0, L9.c1, L12.c0, L12.c1⟩ ?_
            clear hK K
            refine pdone (by kernel_rfl) ?_ _
            go_wp2_with fail
            go_meet
            exact ⟨rfl, DP5⟩
        | true =>
            refine plist #[true, true, true, true, true, true, true, true, true, true, true, true, true, true, true, true, false, false, false, false, false, false, true, true, false, false, false, false] (by kernel_rfl) ?_
            refine pone 16 (by kernel_rfl) rfl fun K hK => ?_
            go_simp
            refine con.mono ?_
            rintro e Pr4 ⟨rfl, hb⟩
            have DP4 := DP3.trans (hb.mono DP3.size)
            replace L7 := L7.on hb
            replace L8 := L8.on hb
            replace L9 := L9.on hb
            replace L12 := L12.on hb
            clear hb con DP3
            refine hK _ _ ⟨L7.c0, L7.c1, L8.c0, L8.c1, L9.c0, L9.c1, L12.c0, L12.c1⟩ ?_
            clear hK K
            refine plist #[true, true, true, true, true, true, true, true, true, true, true, true, true, true, true, true, true, false, false, false, false, false, true, true, false, false, false, false] (by kernel_rfl) ?_
            refine pone 17 (by kernel_rfl) rfl fun K hK => ?_
            go_simp
            refine hK _ _ ⟨L7.c0, L7.c1, L8.c0, L8.c1, L9.c0, L9.c1, L12.c0, L12.c1⟩ ?_
            clear hK K
            refine plist #[true, true, true, true, true, true, true, true, true, true, true, true, true, true, true, true, true, true, false, false, false, false, true, true, false, false, false, false] (by kernel_rfl) ?_
            refine wpAnyH_take (i := 18) (v := (.agg #[.slice q9 n9 c9, .slice r9 m9 d9])) rfl (by kernel_rfl) (by kernel_rfl) (by kernel_rfl) (fun _ _ _ h => h) (.inl ⟨by kernel_rfl, ?_⟩) ⟨L7.c0, L7.c1, L8.c0, L8.c1, L9.c0, L9.c1, L12.c0, L12.c1⟩ ?_
            · rintro w ⟨h1, h2, h3, h4, h5, h6, h7, h8⟩; go_simp <;> omega
            refine plist #[true, true, true, true, true, true, true, true, true, true, true, true, true, true, true, true, true, true, true, false, false, false, true, true, false, false, false, false] (by kernel_rfl) ?_
            refine wpAnyH_take (i := 19) (v := (.agg #[.slice q8 n8 c8, .slice r8 m8 d8])) rfl (by kernel_rfl) (by kernel_rfl) (by kernel_rfl) (fun _ _ _ h => h) (.inl ⟨by kernel_rfl, ?_⟩) ⟨L7.c0, L7.c1, L8.c0, L8.c1, L9.c0, L9.c1, L12.c0, L12.c1⟩ ?_
            · rintro w ⟨h1, h2, h3, h4, h5, h6, h7, h8⟩; go_simp <;> omega
            have con := Lbl.Flows_any _ _ m o Pr4 L9.2 L8.2 fm fo
            rewrite [HFF.out] at con
            cases FF with
            | false =>
                refine plist #[true, true, true, true, true, true, true, true, true, true, true, true, true, true, true, true, true, true, true, true, false, false, true, true, false, false, false, false] (by kernel_rfl) ?_
                refine pone 20 (by kernel_rfl) rfl fun K hK => ?_
                go_simp
                refine con.mono ?_
                rintro e Pr5 ⟨rfl, hb⟩
                have DP5 := DP4.trans (hb.mono DP4.size)
                replace L7 := L7.on hb
                replace L8 := L8.on hb
                replace L9 := L9.on hb
                replace L12 := L12.on hb
                clear hb con DP4
                refine hK _ _ ⟨L7.c0, L7.c1, L8.c0, L8.c1, L9.c0, L9.c1, L12.c0, L12.c1⟩ ?_
                clear hK K
                refine plist #[true, true, true, true, true, true, true, true, true, true, true, true, true, true, true, true, true, true, true, true, true, false, true, true, false, false, false, false] (by kernel_rfl) ?_
                refine wpAnyH_take (i := 21) (v := (.bool false)) rfl (by kernel_rfl) (by kernel_rfl) (by kernel_rfl) (fun _ _ _ h => h) (.inl ⟨by kernel_rfl, ?_⟩) ⟨L7.c0, L7.c1, L8.c0, L8.c1, L9.c0, L9.c1, L12.c0, L12.c1⟩ ?_
                · rintro w ⟨h1, h2, h3, h4, h5, h6, h7, h8⟩; go_simp <;> omega
                have con := Lbl.Flows_any _ _ m j Pr5 L9.2 L12.2 fm fj
                rewrite [show flowsB m j = false from HJ3.out.symm] at con
                refine plist #[true, true, true, true, true, true, true, true, true, true, true, true, true, true, true, true, true, true, true, true, true, true, true, true, false, false, false, false] (by kernel_rfl) ?_
                refine pone 24 (by kernel_rfl) rfl fun K hK => ?_
                go_simp
                refine con.mono ?_
                rintro e Pr6 ⟨rfl, hb⟩
                have DP6 := DP5.trans (hb.mono DP5.size)
                replace L7 := L7.on hb
                replace L8 := L8.on hb
                replace L9 := L9.on hb
                replace L12 := L12.on hb
                clear hb con DP5
                refine hK _ _ ⟨L7.c0, L7.c1, L8.c0, L8.c1, L9.c0, L9.c1, L12.c0, L12.c1⟩ ?_
                clear hK K
                refine plist #[true, true, true, true, true, true, true, true, true, true, true, true, true, true, true, true, true, true, true, true, true, true, true, true, true, false, false, false] (by kernel_rfl) ?_
                refine pone 25 (by kernel_rfl) rfl fun K hK => ?_
                go_simp
                refine hK _ _ ⟨L7.c0, L7.c1, L8.c0, L8.c1, L9.c0, L9.c1, L12.c0, L12.c1⟩ ?_
                clear hK K
                refine plist #[true, true, true, true, true, true, true, true, true, true, true, true, true, true, true, true, true, true, true, true, true, true, true, true, true, true, false, false] (by kernel_rfl) ?_
                refine pone 26 (by kernel_rfl) rfl fun K hK => ?_
                go_simp
                refine hK _ _ ⟨L7.c0, L7.c1, L8.c0, L8.c1, L9.c0, L9.c1, L12.c0, L12.c1⟩ ?_
                clear hK K
                refine plist #[true, true, true, true, true, true, true, true, true, true, true, true, true, true, true, true, true, true, true, true, true, true, true, true, true, true, true, false] (by kernel_rfl) ?_
                refine pone 27 (by kernel_rfl) rfl fun K hK => ?_
                go_simp
                refine hK _ _ ⟨L7.c0, L7.c1, L8.c0, L8.c1, L9.c0, L9.c1, L12.c0, L12.c1⟩ ?_
                clear hK K
                refine pdone (by kernel_rfl) ?_ _
                go_wp2_with fail
                go_meet
                exact ⟨rfl, DP6⟩
            | true =>
                refine plist #[true, true, true, true, true, true, true, true, true, true, true, true, true, true, true, true, true, true, true, true, false, false, true, true, false, false, false, false] (by kernel_rfl) ?_
                refine pone 20 (by kernel_rfl) rfl fun K hK => ?_
                go_simp
                refine con.mono ?_
                rintro e Pr5 ⟨rfl, hb⟩
                have DP5 := DP4.trans (hb.mono DP4.size)
                replace L7 := L7.on hb
                replace L8 := L8.on hb
                replace L9 := L9.on hb
                replace L12 := L12.on hb
                clear hb con DP4
                refine hK _ _ ⟨L7.c0, L7.c1, L8.c0, L8.c1, L9.c0, L9.c1, L12.c0, L12.c1⟩ ?_
                clear hK K
                refine plist #[true, true, true, true, true, true, true, true, true, true, true, true, true, true, true, true, true, true, true, true, true, false, true, true, false, false, false, false] (by kernel_rfl) ?_
                refine wpAnyH_take (i := 21) (v := (.bool true)) rfl (by kernel_rfl) (by kernel_rfl) (by kernel_rfl) (fun _ _ _ h => h) (.inl ⟨by kernel_rfl, ?_⟩) ⟨L7.c0, L7.c1, L8.c0, L8.c1, L9.c0, L9.c1, L12.c0, L12.c1⟩ ?_
                · rintro w ⟨h1, h2, h3, h4, h5, h6, h7, h8⟩; go_simp <;> omega
                have con := Lbl.Flows_any _ _ m j Pr5 L9.2 L12.2 fm fj
                rewrite [show flowsB m j = true from HJ3.out.symm] at con
                refine plist #[true, true, true, true, true, true, true, true, true, true, true, true, true, true, true, true, true, true, true, true, true, true, true, true, false, false, false, false] (by kernel_rfl) ?_
                refine pone 24 (by kernel_rfl) rfl fun K hK => ?_
                go_simp
                refine con.mono ?_
                rintro e Pr6 ⟨rfl, hb⟩
                have DP6 := DP5.trans (hb.mono DP5.size)
                replace L7 := L7.on hb
                replace L8 := L8.on hb
                replace L9 := L9.on hb
                replace L12 := L12.on hb
                clear hb con DP5
                refine hK _ _ ⟨L7.c0, L7.c1, L8.c0, L8.c1, L9.c0, L9.c1, L12.c0, L12.c1⟩ ?_
                clear hK K
                refine plist #[true, true, true, true, true, true, true, true, true, true, true, true, true, true, true, true, true, true, true, true, true, true, true, true, true, false, false, false] (by kernel_rfl) ?_
                refine pone 25 (by kernel_rfl) rfl fun K hK => ?_
                go_simp
                refine hK _ _ ⟨L7.c0, L7.c1, L8.c0, L8.c1, L9.c0, L9.c1, L12.c0, L12.c1⟩ ?_
                clear hK K
                refine plist #[true, true, true, true, true, true, true, true, true, true, true, true, true, true, true, true, true, true, true, true, true, true, true, true, true, true, false, false] (by kernel_rfl) ?_
                refine pone 26 (by kernel_rfl) rfl fun K hK => ?_
                go_simp
                refine hK _ _ ⟨L7.c0, L7.c1, L8.c0, L8.c1, L9.c0, L9.c1, L12.c0, L12.c1⟩ ?_
                clear hK K
                refine plist #[true, true, true, true, true, true, true, true, true, true, true, true, true, true, true, true, true, true, true, true, true, true, true, true, true, true, true, false] (by kernel_rfl) ?_
                refine pone 27 (by kernel_rfl) rfl fun K hK => ?_
                go_simp
                refine hK _ _ ⟨L7.c0, L7.c1, L8.c0, L8.c1, L9.c0, L9.c1, L12.c0, L12.c1⟩ ?_
                clear hK K
                refine pdone (by kernel_rfl) ?_ _
                go_wp2_with fail
                go_meet
                exact ⟨rfl, DP6⟩
      · have e1 : (en == 0) = false := beq_eq_false_iff_ne.2 hen
        refine pregion_any (fun X => X.cell? ⟨b7, 0, none⟩ = some (.slice q7 n7 c7) ∧ X.cell? ⟨b7, 1, none⟩ = some (.slice r7 m7 d7) ∧ X.cell? ⟨b7 + 1, 0, none⟩ = some (.slice q8 n8 c8) ∧ X.cell? ⟨b7 + 1, 1, none⟩ = some (.slice r8 m8 d8) ∧ X.cell? ⟨b7 + 1 + 1, 0, none⟩ = some (.slice q9 n9 c9) ∧ X.cell? ⟨b7 + 1 + 1, 1, none⟩ = some (.slice r9 m9 d9) ∧ X.cell? ⟨b12, 0, none⟩ = some (.slice q12 n12 c12) ∧ X.cell? ⟨b12, 1, none⟩ = some (.slice r12 m12 d12)) (by kernel_rfl) ?_
        have hb : Below X13.heap.size X13 X13.drew := ⟨rfl, rfl, rfl, Nat.le_refl _, fun _ _ => rfl⟩
        obtain ⟨Pr1, hXd⟩ : ∃ Z, X13.drew = Z := ⟨_, rfl⟩
        rw [hXd] at hb ⊢
        have DP1 := D0.trans (hb.mono D0.size)
        replace L7 := L7.on hb
        replace L8 := L8.on hb
        replace L9 := L9.on hb
        replace L12 := L12.on hb
        clear hb hXd
        refine pone 0 (by kernel_rfl) rfl fun K hK => ?_
        go_simp
        refine hK _ _ ⟨L7.c0, L7.c1, L8.c0, L8.c1, L9.c0, L9.c1, L12.c0, L12.c1⟩ ?_
        clear hK K
        refine plist #[true, false, false, false, false, false, false, false, false, false, false, false, false, false, false, false, false, false, false, false, false, false, false, false, false, false, false, false] (by kernel_rfl) ?_
        refine pone 1 (by kernel_rfl) rfl fun K hK => ?_
        go_simp
        refine hK _ _ ⟨L7.c0, L7.c1, L8.c0, L8.c1, L9.c0, L9.c1, L12.c0, L12.c1⟩ ?_
        clear hK K
        refine plist #[true, true, false, false, false, false, false, false, false, false, false, false, false, false, false, false, false, false, false, false, false, false, false, false, false, false, false, false] (by kernel_rfl) ?_
        refine pone 2 (by kernel_rfl) rfl fun K hK => ?_
        go_simp
        refine hK _ _ ⟨L7.c0, L7.c1, L8.c0, L8.c1, L9.c0, L9.c1, L12.c0, L12.c1⟩ ?_
        clear hK K
        refine plist #[true, true, true, false, false, false, false, false, false, false, false, false, false, false, false, false, false, false, false, false, false, false, false, false, false, false, false, false] (by kernel_rfl) ?_
        refine wpAnyH_take (i := 3) (v := (undef)) rfl (by kernel_rfl) (by kernel_rfl) (by kernel_rfl) (fun _ _ _ h => h) (.inr ⟨by kernel_rfl, rfl⟩) ⟨L7.c0, L7.c1, L8.c0, L8.c1, L9.c0, L9.c1, L12.c0, L12.c1⟩ ?_
        refine plist #[true, true, true, true, false, false, false, false, false, false, false, false, false, false, false, false, false, false, false, false, false, false, false, false, false, false, false, false] (by kernel_rfl) ?_
        refine pone 4 (by kernel_rfl) rfl fun K hK => ?_
        go_simp
        refine hK _ _ ⟨L7.c0, L7.c1, L8.c0, L8.c1, L9.c0, L9.c1, L12.c0, L12.c1⟩ ?_
        clear hK K
        refine plist #[true, true, true, true, true, false, false, false, false, false, false, false, false, false, false, false, false, false, false, false, false, false, false, false, false, false, false, false] (by kernel_rfl) ?_
        refine pone 5 (by kernel_rfl) rfl fun K hK => ?_
        go_simp
        refine hK _ _ ⟨L7.c0, L7.c1, L8.c0, L8.c1, L9.c0, L9.c1, L12.c0, L12.c1⟩ ?_
        clear hK K
        refine plist #[true, true, true, true, true, true, false, false, false, false, false, false, false, false, false, false, false, false, false, false, false, false, false, false, false, false, false, false] (by kernel_rfl) ?_
        refine pone 6 (by kernel_rfl) rfl fun K hK => ?_
        go_simp
        refine hK _ _ ⟨L7.c0, L7.c1, L8.c0, L8.c1, L9.c0, L9.c1, L12.c0, L12.c1⟩ ?_
        clear hK K
        refine plist #[true, true, true, true, true, true, true, false, false, false, false, false, false, false, false, false, false, false, false, false, false, false, false, false, false, false, false, false] (by kernel_rfl) ?_
        refine pone 7 (by kernel_rfl) rfl fun K hK => ?_
        go_simp
        refine hK _ _ ⟨L7.c0, L7.c1, L8.c0, L8.c1, L9.c0, L9.c1, L12.c0, L12.c1⟩ ?_
        clear hK K
        refine plist #[true, true, true, true, true, true, true, true, false, false, false, false, false, false, false, false, false, false, false, false, false, false, false, false, false, false, false, false] (by kernel_rfl) ?_
        refine wpAnyH_take (i := 8) (v := (undef)) rfl (by kernel_rfl) (by kernel_rfl) (by kernel_rfl) (fun _ _ _ h => h) (.inr ⟨by kernel_rfl, rfl⟩) ⟨L7.c0, L7.c1, L8.c0, L8.c1, L9.c0, L9.c1, L12.c0, L12.c1⟩ ?_
        refine plist #[true, true, true, true, true, true, true, true, true, false, false, false, false, false, false, false, false, false, false, false, false, false, false, false, false, false, false, false] (by kernel_rfl) ?_
        refine pone 9 (by kernel_rfl) rfl fun K hK => ?_
        go_simp
        refine hK _ _ ⟨L7.c0, L7.c1, L8.c0, L8.c1, L9.c0, L9.c1, L12.c0, L12.c1⟩ ?_
        clear hK K
        refine plist #[true, true, true, true, true, true, true, true, true, true, false, false, false, false, false, false, false, false, false, false, false, false, false, false, false, false, false, false] (by kernel_rfl) ?_
        refine pone 10 (by kernel_rfl) rfl fun K hK => ?_
        go_simp
        refine hK _ _ ⟨L7.c0, L7.c1, L8.c0, L8.c1, L9.c0, L9.c1, L12.c0, L12.c1⟩ ?_
        clear hK K
        refine plist #[true, true, true, true, true, true, true, true, true, true, true, false, false, false, false, false, false, false, false, false, false, false, false, false, false, false, false, false] (by kernel_rfl) ?_
        refine pone 11 (by kernel_rfl) rfl fun K hK => ?_
        go_simp
        refine hK _ _ ⟨L7.c0, L7.c1, L8.c0, L8.c1, L9.c0, L9.c1, L12.c0, L12.c1⟩ ?_
        clear hK K
        refine plist #[true, true, true, true, true, true, true, true, true, true, true, true, false, false, false, false, false, false, false, false, false, false, false, false, false, false, false, false] (by kernel_rfl) ?_
        refine pone 12 (by kernel_rfl) rfl fun K hK => ?_
        go_simp
        refine hK _ _ ⟨L7.c0, L7.c1, L8.c0, L8.c1, L9.c0, L9.c1, L12.c0, L12.c1⟩ ?_
        clear hK K
        refine plist #[true, true, true, true, true, true, true, true, true, true, true, true, true, false, false, false, false, false, false, false, false, false, false, false, false, false, false, false] (by kernel_rfl) ?_
        refine pone 13 (by kernel_rfl) rfl fun K hK => ?_
        go_simp
        refine hK _ _ ⟨L7.c0, L7.c1, L8.c0, L8.c1, L9.c0, L9.c1, L12.c0, L12.c1⟩ ?_
        clear hK K
        refine plist #[true, true, true, true, true, true, true, true, true, true, true, true, true, true, false, false, false, false, false, false, false, false, false, false, false, false, false, false] (by kernel_rfl) ?_
        refine wpAnyH_take (i := 14) (v := (undef)) rfl (by kernel_rfl) (by kernel_rfl) (by kernel_rfl) (fun _ _ _ h => h) (.inr ⟨by kernel_rfl, rfl⟩) ⟨L7.c0, L7.c1, L8.c0, L8.c1, L9.c0, L9.c1, L12.c0, L12.c1⟩ ?_
        refine plist #[true, true, true, true, true, true, true, true, true, true, true, true, true, true, true, false, false, false, false, false, false, false, false, false, false, false, false, false] (by kernel_rfl) ?_
        refine wpAnyH_take (i := 15) (v := (undef)) rfl (by kernel_rfl) (by kernel_rfl) (by kernel_rfl) (fun _ _ _ h => h) (.inr ⟨by kernel_rfl, rfl⟩) ⟨L7.c0, L7.c1, L8.c0, L8.c1, L9.c0, L9.c1, L12.c0, L12.c1⟩ ?_
        refine plist #[true, true, true, true, true, true, true, true, true, true, true, true, true, true, true, true, false, false, false, false, false, false, false, false, false, false, false, false] (by kernel_rfl) ?_
        refine wpAnyH_take (i := 16) (v := (undef)) rfl (by kernel_rfl) (by kernel_rfl) (by kernel_rfl) (fun _ _ _ h => h) (.inr ⟨by kernel_rfl, rfl⟩) ⟨L7.c0, L7.c1, L8.c0, L8.c1, L9.c0, L9.c1, L12.c0, L12.c1⟩ ?_
        refine plist #[true, true, true, true, true, true, true, true, true, true, true, true, true, true, true, true, true, false, false, false, false, false, false, false, false, false, false, false] (by kernel_rfl) ?_
        refine wpAnyH_take (i := 17) (v := (undef)) rfl (by kernel_rfl) (by kernel_rfl) (by kernel_rfl) (fun _ _ _ h => h) (.inr ⟨by kernel_rfl, rfl⟩) ⟨L7.c0, L7.c1, L8.c0, L8.c1, L9.c0, L9.c1, L12.c0, L12.c1⟩ ?_
        refine plist #[true, true, true, true, true, true, true, true, true, true, true, true, true, true, true, true, true, true, false, false, false, false, false, false, false, false, false, false] (by kernel_rfl) ?_
        refine wpAnyH_take (i := 18) (v := (undef)) rfl (by kernel_rfl) (by kernel_rfl) (by kernel_rfl) (fun _ _ _ h => h) (.inr ⟨by kernel_rfl, rfl⟩) ⟨L7.c0, L7.c1, L8.c0, L8.c1, L9.c0, L9.c1, L12.c0, L12.c1⟩ ?_
        refine plist #[true, true, true, true, true, true, true, true, true, true, true, true, true, true, true, true, true, true, true, false, false, false, false, false, false, false, false, false] (by kernel_rfl) ?_
        refine wpAnyH_take (i := 19) (v := (undef)) rfl (by kernel_rfl) (by kernel_rfl) (by kernel_rfl) (fun _ _ _ h => h) (.inr ⟨by kernel_rfl, rfl⟩) ⟨L7.c0, L7.c1, L8.c0, L8.c1, L9.c0, L9.c1, L12.c0, L12.c1⟩ ?_
        refine plist #[true, true, true, true, true, true, true, true, true, true, true, true, true, true, true, true, true, true, true, true, false, false, false, false, false, false, false, false] (by kernel_rfl) ?_
        refine wpAnyH_take (i := 20) (v := (undef)) rfl (by kernel_rfl) (by kernel_rfl) (by kernel_rfl) (fun _ _ _ h => h) (.inr ⟨by kernel_rfl, rfl⟩) ⟨L7.c0, L7.c1, L8.c0, L8.c1, L9.c0, L9.c1, L12.c0, L12.c1⟩ ?_
        refine plist #[true, true, true, true, true, true, true, true, true, true, true, true, true, true, true, true, true, true, true, true, true, false, false, false, false, false, false, false] (by kernel_rfl) ?_
        refine wpAnyH_take (i := 21) (v := (undef)) rfl (by kernel_rfl) (by kernel_rfl) (by kernel_rfl) (fun _ _ _ h => h) (.inr ⟨by kernel_rfl, rfl⟩) ⟨L7.c0, L7.c1, L8.c0, L8.c1, L9.c0, L9.c1, L12.c0, L12.c1⟩ ?_
        refine plist #[true, true, true, true, true, true, true, true, true, true, true, true, true, true, true, true, true, true, true, true, true, true, false, false, false, false, false, false] (by kernel_rfl) ?_
        refine wpAnyH_take (i := 22) (v := (undef)) rfl (by kernel_rfl) (by kernel_rfl) (by kernel_rfl) (fun _ _ _ h => h) (.inr ⟨by kernel_rfl, rfl⟩) ⟨L7.c0, L7.c1, L8.c0, L8.c1, L9.c0, L9.c1, L12.c0, L12.c1⟩ ?_
        refine plist #[true, true, true, true, true, true, true, true, true, true, true, true, true, true, true, true, true, true, true, true, true, true, true, false, false, false, false, false] (by kernel_rfl) ?_
        refine pone 23 (by kernel_rfl) rfl fun K hK => ?_
        go_simp
        refine hK _ _ ⟨L7.c0, L7.c1, L8.c0, L8.c1, L9.c0, L9.c1, L12.c0, L12.c1⟩ ?_
        clear hK K
        refine plist #[true, true, true, true, true, true, true, true, true, true, true, true, true, true, true, true, true, true, true, true, true, true, true, true, false, false, false, false] (by kernel_rfl) ?_
        refine pone 24 (by kernel_rfl) rfl fun K hK => ?_
        go_simp
        refine hK _ _ ⟨L7.c0, L7.c1, L8.c0, L8.c1, L9.c0, L9.c1, L12.c0, L12.c1⟩ ?_
        clear hK K
        refine plist #[true, true, true, true, true, true, true, true, true, true, true, true, true, true, true, true, true, true, true, true, true, true, true, true, true, false, false, false] (by kernel_rfl) ?_
        refine pone 25 (by kernel_rfl) rfl fun K hK => ?_
        go_simp
        refine hK _ _ ⟨L7.c0, L7.c1, L8.c0, L8.c1, L9.c0, L9.c1, L12.c0, L12.c1⟩ ?_
        clear hK K
        refine plist #[true, true, true, true, true, true, true, true, true, true, true, true, true, true, true, true, true, true, true, true, true, true, true, true, true, true, false, false] (by kernel_rfl) ?_
        refine pone 26 (by kernel_rfl) rfl fun K hK => ?_
        go_simp
        refine hK _ _ ⟨L7.c0, L7.c1, L8.c0, L8.c1, L9.c0, L9.c1, L12.c0, L12.c1⟩ ?_
        clear hK K
        refine plist #[true, true, true, true, true, true, true, true, true, true, true, true, true, true, true, true, true, true, true, true, true, true, true, true, true, true, true, false] (by kernel_rfl) ?_
        refine pone 27 (by kernel_rfl) rfl fun K hK => ?_
        go_simp
        refine hK _ _ ⟨L7.c0, L7.c1, L8.c0, L8.c1, L9.c0, L9.c1, L12.c0, L12.c1⟩ ?_
        clear hK K
        refine pdone (by kernel_rfl) ?_ _
        go_wp2_with fail
        go_meet
        exact ⟨rfl, DP1⟩
    case rest =>
    obtain ⟨rfl, hb⟩ := hcut
    have B_14 := B_13.trans (hb.mono B_13.size)
    replace L7 := L7.on hb
    replace L8 := L8.on hb
    replace L9 := L9.on hb
    clear hb B_13 HME HM HMF HEN L12
    generalize wc = X14 at *
    go_upto_region 12 with fail
    have e1 : (([97, 108, 119, 97, 121, 115, 32, 59, 32, 110, 101, 118, 101, 114] : List UInt8) == [97, 108, 119, 97, 121, 115, 32, 59, 32, 110, 101, 118, 101, 114]) = true := by decide
    refine pregion_any (fun X => X.cell? ⟨b7, 0, none⟩ = some (.slice q7 n7 c7) ∧ X.cell? ⟨b7, 1, none⟩ = some (.slice r7 m7 d7)) (by kernel_rfl) ?_
    have hb : Below X14.heap.size X14 X14.drew := ⟨rfl, rfl, rfl, Nat.le_refl _, fun _ _ => rfl⟩
    obtain ⟨Pr1, hXd⟩ : ∃ Z, X14.drew = Z := ⟨_, rfl⟩
    rw [hXd] at hb ⊢
    have DP1 := B_14.trans (hb.mono B_14.size)
    replace L7 := L7.on hb
    clear hb hXd
    refine wpAnyH_take (i := 1) (v := (.agg #[.slice q7 n7 c7, .slice r7 m7 d7])) rfl (by kernel_rfl) (by kernel_rfl) (by kernel_rfl) (fun _ _ _ h => h) (.inl ⟨by kernel_rfl, ?_⟩) ⟨L7.c0, L7.c1⟩ ?_
    · rintro w ⟨h1, h2⟩; go_simp <;> omega
    have con := Pure_any Pr1
    refine plist #[false, true, false, false, false, false, false, false, false, false, false, false, false, false] (by kernel_rfl) ?_
    refine pone 0 (by kernel_rfl) rfl fun K hK => ?_
    go_simp
    refine con.mono ?_
    rintro e Pr2 ⟨v1, rfl, N1, hb⟩
    have DP2 := DP1.trans (hb.mono DP1.size)
    replace L7 := L7.on hb
    clear hb con DP1
    refine hK _ _ ⟨L7.c0, L7.c1⟩ ?_
    clear hK K
    have con := Lbl.Flows_any _ _ ⟨[], [[]]⟩ l Pr2 N1 L7.2 pure_few fl
    rewrite [HP1.out] at con
    refine plist #[true, true, false, false, false, false, false, false, false, false, false, false, false, false] (by kernel_rfl) ?_
    refine pone 2 (by kernel_rfl) rfl fun K hK => ?_
    go_simp
    refine con.mono ?_
    rintro e Pr3 ⟨rfl, hb⟩
    have DP3 := DP2.trans (hb.mono DP2.size)
    replace L7 := L7.on hb
    replace N1 := N1.below hb
    clear hb con DP2
    refine hK _ _ ⟨L7.c0, L7.c1⟩ ?_
    clear hK K
    refine plist #[true, true, true, false, false, false, false, false, false, false, false, false, false, false] (by kernel_rfl) ?_
    refine pone 3 (by kernel_rfl) rfl fun K hK => ?_
    go_simp
    refine hK _ _ ⟨L7.c0, L7.c1⟩ ?_
    clear hK K
    refine plist #[true, true, true, true, false, false, false, false, false, false, false, false, false, false] (by kernel_rfl) ?_
    refine wpAnyH_take (i := 4) (v := (.agg #[.slice q7 n7 c7, .slice r7 m7 d7])) rfl (by kernel_rfl) (by kernel_rfl) (by kernel_rfl) (fun _ _ _ h => h) (.inl ⟨by kernel_rfl, ?_⟩) ⟨L7.c0, L7.c1⟩ ?_
    · rintro w ⟨h1, h2⟩; go_simp <;> omega
    have con := Shut_any Pr3
    refine plist #[true, true, true, true, true, false, false, false, false, false, false, false, false, false] (by kernel_rfl) ?_
    refine pone 5 (by kernel_rfl) rfl fun K hK => ?_
    go_simp
    refine con.mono ?_
    rintro e Pr4 ⟨v2, rfl, N2, hb⟩
    have DP4 := DP3.trans (hb.mono DP3.size)
    replace L7 := L7.on hb
    replace N1 := N1.below hb
    clear hb con DP3
    refine hK _ _ ⟨L7.c0, L7.c1⟩ ?_
    clear hK K
    have con := Lbl.Flows_any _ _ l ⟨[[]], []⟩ Pr4 L7.2 N2 fl shut_few
    rewrite [HP2.out] at con
    refine plist #[true, true, true, true, true, true, false, false, false, false, false, false, false, false] (by kernel_rfl) ?_
    refine pone 6 (by kernel_rfl) rfl fun K hK => ?_
    go_simp
    refine con.mono ?_
    rintro e Pr5 ⟨rfl, hb⟩
    have DP5 := DP4.trans (hb.mono DP4.size)
    replace L7 := L7.on hb
    replace N1 := N1.below hb
    replace N2 := N2.below hb
    clear hb con DP4
    refine hK _ _ ⟨L7.c0, L7.c1⟩ ?_
    clear hK K
    refine plist #[true, true, true, true, true, true, true, false, false, false, false, false, false, false] (by kernel_rfl) ?_
    refine pone 7 (by kernel_rfl) rfl fun K hK => ?_
    go_simp
    refine hK _ _ ⟨L7.c0, L7.c1⟩ ?_
    clear hK K
    refine plist #[true, true, true, true, true, true, true, true, false, false, false, false, false, false] (by kernel_rfl) ?_
    refine pone 8 (by kernel_rfl) rfl fun K hK => ?_
    go_simp
    refine hK _ _ ⟨L7.c0, L7.c1⟩ ?_
    clear hK K
    have con := Pure_any Pr5
    refine plist #[true, true, true, true, true, true, true, true, true, false, false, false, false, false] (by kernel_rfl) ?_
    refine pone 9 (by kernel_rfl) rfl fun K hK => ?_
    go_simp
    refine con.mono ?_
    rintro e Pr6 ⟨v3, rfl, N3, hb⟩
    have DP6 := DP5.trans (hb.mono DP5.size)
    replace L7 := L7.on hb
    replace N1 := N1.below hb
    replace N2 := N2.below hb
    clear hb con DP5
    refine hK _ _ ⟨L7.c0, L7.c1⟩ ?_
    clear hK K
    have con := Lbl.Text_any _ ⟨[], [[]]⟩ Pr6 N3 pure_few (by decide +kernel) (by decide +kernel)
    rewrite [pure_text] at con
    refine plist #[true, true, true, true, true, true, true, true, true, true, false, false, false, false] (by kernel_rfl) ?_
    refine pone 10 (by kernel_rfl) rfl fun K hK => ?_
    go_simp
    refine con.mono ?_
    rintro e Pr7 ⟨rfl, hb⟩
    have DP7 := DP6.trans (hb.mono DP6.size)
    replace L7 := L7.on hb
    replace N1 := N1.below hb
    replace N2 := N2.below hb
    replace N3 := N3.below hb
    clear hb con DP6
    refine hK _ _ ⟨L7.c0, L7.c1⟩ ?_
    clear hK K
    refine plist #[true, true, true, true, true, true, true, true, true, true, true, false, false, false] (by kernel_rfl) ?_
    refine pone 11 (by kernel_rfl) rfl fun K hK => ?_
    go_simp
    refine hK _ _ ⟨L7.c0, L7.c1⟩ ?_
    clear hK K
    refine plist #[true, true, true, true, true, true, true, true, true, true, true, true, false, false] (by kernel_rfl) ?_
    refine pone 12 (by kernel_rfl) rfl fun K hK => ?_
    go_simp
    refine hK _ _ ⟨L7.c0, L7.c1⟩ ?_
    clear hK K
    refine plist #[true, true, true, true, true, true, true, true, true, true, true, true, true, false] (by kernel_rfl) ?_
    refine pone 13 (by kernel_rfl) rfl fun K hK => ?_
    go_simp
    refine hK _ _ ⟨L7.c0, L7.c1⟩ ?_
    clear hK K
    refine pdone (by kernel_rfl) ?_ _
    go_wp2
    go_ret
    exact ⟨by first | rfl | simp | decide, DP7⟩

theorem proved : Rows.LabelLatticeCardSaid := card walk
end Go.Proofs.YtdlofjcblcpgpaaGreatDoor.labelLattice
