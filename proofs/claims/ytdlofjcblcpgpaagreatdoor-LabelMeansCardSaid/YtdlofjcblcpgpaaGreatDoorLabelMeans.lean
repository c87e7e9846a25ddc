/- LabelMeans: the law returns true at whatever input, and writes nothing that was there: its tied card. Conditions: none. -/
import Derived.Test.YtdlofjcblcpgpaaGreatDoorBaseF
import Derived.Deep.DeepCutAuto
namespace Go.Proofs.YtdlofjcblcpgpaaGreatDoor.labelMeans
open Go.RowKit Go.Shelf Url Org Frm Cls Lbl
attribute [local go_sem] Oper.semAt_some
set_option linter.unusedVariables false

theorem row_by {w : World} {a : Option Addr} {len cap : Nat} {zs : List Int} (h : IsRow .u8 w a len cap zs) : ∃ bs : List UInt8, By w (.slice a len cap) bs := by
  rcases h with ⟨rfl, rfl, rfl, rfl⟩ | ⟨x, rfl, h1, h2, h3, h4, h5⟩
  · exact ⟨[], by_nil w⟩
  · have hz : ∀ i, i < len → (Lib.numsL (Lib.bytesOf (zs.take len))).getD i 0 = zs.getD i 0 := fun i hi => by
      have hi' : i < zs.length := by omega
      have hw := bounds_u8 (h5 _ (List.getElem_mem hi'))
      have : (Lib.bytesOf (zs.take len)).getD i 0 = UInt8.ofNat (zs[i]).toNat := by
        simp [Lib.bytesOf, List.getD, hi, List.getElem?_eq_getElem hi']
      rw [numsL_getD _ _ (by simp [Lib.bytesOf]; omega), this, List.getD, List.getElem?_eq_getElem hi']
      simp only [Option.getD_some, UInt8.toNat_ofNat']
      omega
    refine ⟨Lib.bytesOf (zs.take len), By.of (by simp [Lib.bytesOf]; omega) h1 h2 (fun h => by cases h) (Lib.BytesIn.of_cells fun i hi => ?_)⟩
    rw [hz i hi]
    exact h4 i (by omega)

set_option maxRecDepth 100000 in
set_option maxHeartbeats 32000000 in
theorem walk : Walks := by
  intro a0 len0 cap0 z0 a1 len1 cap1 z1 w w0 w1 hG
  obtain ⟨ta, ha⟩ := row_by w0
  obtain ⟨tb, hb'⟩ := row_by w1
  clear w0 w1
  have con := lives_any w hG
  have HG := Lib.hid hG
  clear hG
  go_enter Tryz.func6, Tryz.ntmps6
  go_wp2_with fail
  refine con.mono ?_
  rintro e X1 ⟨rfl, B_1⟩
  clear con
  replace ha := ha.on B_1
  replace hb' := hb'.on B_1
  have con := lawOf_any a0 len0 cap0 ta X1 ha (HG.out.on B_1)
  have Hl := Lib.hid (parse_lab (ta.take 400))
  have HSl := Lib.hid (parse_lab_short (ta.take 400) (by rw [List.length_take]; omega))
  generalize labV (parseL (ta.take 400)) = l at con Hl HSl
  clear ha
  go_wp2_with fail
  refine con.mono ?_
  rintro e X2 ⟨q5, n5, c5, r5, m5, d5, rfl, s5, hb⟩
  have B_2 := B_1.trans (hb.mono B_1.size)
  replace hb' := hb'.on hb
  clear con hb B_1
  have con := lawOf_any a1 len1 cap1 tb X2 hb' (HG.out.on B_2)
  have Ho := Lib.hid (parse_lab (tb.take 400))
  have HSo := Lib.hid (parse_lab_short (tb.take 400) (by rw [List.length_take]; omega))
  generalize labV (parseL (tb.take 400)) = o at con Ho HSo
  clear hb'
  go_wp2_with fail
  refine con.mono ?_
  rintro e X3 ⟨q6, n6, c6, r6, m6, d6, rfl, s6, hb⟩
  have B_3 := B_2.trans (hb.mono B_2.size)
  replace s5 := s5.below hb
  clear con hb B_2
  obtain ⟨b5, hb5⟩ : ∃ b, X3.heap.size = b := ⟨_, rfl⟩
  obtain ⟨X4, hX4⟩ : ∃ Z, X3.alloc (.cells #[.slice q5 n5 c5, .slice r5 m5 d5] 28) = Z := ⟨_, rfl⟩
  have hb : Below X3.heap.size X3 X4 := by rw [← hX4]; exact below_alloc _
  have L5 : LX b5 q5 n5 c5 r5 m5 d5 l X4 := by rw [← hX4, ← hb5]; exact LX.new s5
  have hz4 : X4.heap.size = b5 + 1 := by rw [← hX4, ← hb5]; simp
  have B_4 := B_3.trans (hb.mono B_3.size)
  replace s6 := s6.below hb
  obtain ⟨X5, hX5⟩ : ∃ Z, X4.alloc (.cells #[.slice q6 n6 c6, .slice r6 m6 d6] 28) = Z := ⟨_, rfl⟩
  have hb : Below X4.heap.size X4 X5 := by rw [← hX5]; exact below_alloc _
  have L6 : LX (b5 + 1) q6 n6 c6 r6 m6 d6 o X5 := by rw [← hX5, ← hz4]; exact LX.new s6
  have B_5 := B_4.trans (hb.mono B_4.size)
  replace L5 := L5.on hb
  have HX4 := Lib.hid hX4
  have HX5 := Lib.hid hX5
  have HB5 := Lib.hid hb5
  clear hX4 hX5 hb5 hz4 s5 s6 hb B_3 B_4
  have fl := lok_few Hl.out
  have fo := lok_few Ho.out
  have HFW := Lib.hid (flowK_all l o)
  have HFS := Lib.hid (fun k => flowK_succ l o (namesA [l.s, l.i, o.s, o.i]) k)
  have HF0 := Lib.hid (flowK_zero l o (namesA [l.s, l.i, o.s, o.i]))
  have HRC := Lib.hid (fun X (v : Value) (l : Lab) (h : LabIs X v l) (f : Few l) => lawRef_any v l X h f)
  go_upto_region 4 with fail
  rewrite [HB5.out, HX4.out, HX5.out]
  clear HX4 HX5 HB5 Hl Ho
  go_cut [7, 8] from 18 to 21 (fun s7 s8 X => HeldR s7 l X ∧ HeldR s8 o X ∧ Below X5.heap.size X5 X)
  case first =>
    have D0 : Below X5.heap.size X5 X5.drew := ⟨rfl, rfl, rfl, Nat.le_refl _, fun _ _ => rfl⟩
    refine pregion_any (fun X => X.cell? ⟨b5, 0, none⟩ = some (.slice q5 n5 c5) ∧ X.cell? ⟨b5, 1, none⟩ = some (.slice r5 m5 d5) ∧ X.cell? ⟨(b5 + 1), 0, none⟩ = some (.slice q6 n6 c6) ∧ X.cell? ⟨(b5 + 1), 1, none⟩ = some (.slice r6 m6 d6)) (by kernel_rfl) ?_
    obtain ⟨Y0, hXd⟩ : ∃ Z, X5.drew = Z := ⟨_, rfl⟩
    rw [hXd] at D0 ⊢
    clear hXd
    refine wpAnyH_take (i := 0) (v := (.agg #[.slice q5 n5 c5, .slice r5 m5 d5])) rfl (by kernel_rfl) (by kernel_rfl) (by kernel_rfl) (fun _ _ _ h => h) (.inl ⟨by kernel_rfl, ?_⟩) ⟨(L5.on D0).c0, (L5.on D0).c1, (L6.on D0).c0, (L6.on D0).c1⟩ ?_
    · rintro w ⟨h1, h2, h3, h4⟩; go_simp <;> omega
    refine plist #[true, false, false, false, false, false, false, false] (by kernel_rfl) ?_
    refine wpAnyH_take (i := 2) (v := (.agg #[.slice q6 n6 c6, .slice r6 m6 d6])) rfl (by kernel_rfl) (by kernel_rfl) (by kernel_rfl) (fun _ _ _ h => h) (.inl ⟨by kernel_rfl, ?_⟩) ⟨(L5.on D0).c0, (L5.on D0).c1, (L6.on D0).c0, (L6.on D0).c1⟩ ?_
    · rintro w ⟨h1, h2, h3, h4⟩; go_simp <;> omega
    refine plist #[true, false, true, false, false, false, false, false] (by kernel_rfl) ?_
    refine pthreeQ 1 4 5 (by kernel_rfl) rfl rfl rfl (fun K hK => ?_) (fun K hK => ?_) (fun K hK => ?_)
    · skip
      have con := HRC.out Y0 _ l (L5.on D0).2 fl
      go_simp
      refine con.mono ?_
      rintro e Y1 ⟨q7, n7, c7, r7, m7, d7, rfl, R1, k1, k1', hb⟩
      have D1 := D0.trans (hb.mono D0.size)
      clear con hb k1 k1' D0
      refine hK _ _ ⟨(L5.on D1).c0, (L5.on D1).c1, (L6.on D1).c0, (L6.on D1).c1⟩ ?_
      clear hK K
      refine plist #[true, true, true, false, false, false, false, false] (by kernel_rfl) ?_
      refine pthreeQ 3 4 5 (by kernel_rfl) rfl rfl rfl (fun K hK => ?_) (fun K hK => ?_) (fun K hK => ?_)
      · skip
        have con := HRC.out Y1 _ o (L6.on D1).2 fo
        go_simp
        refine con.mono ?_
        rintro e Y2 ⟨q8, n8, c8, r8, m8, d8, rfl, R3, k3, k3', hb⟩
        have D2 := D1.trans (hb.mono D1.size)
        replace R1 := R1.below hb
        clear con hb k3 k3' D1
        refine hK _ _ ⟨(L5.on D2).c0, (L5.on D2).c1, (L6.on D2).c0, (L6.on D2).c1⟩ ?_
        clear hK K
        refine plist #[true, true, true, true, false, false, false, false] (by kernel_rfl) ?_
        refine ptwoQ 4 5 (by kernel_rfl) rfl rfl (fun K hK => ?_) (fun K hK => ?_)
        · skip
          go_simp
          obtain ⟨t4, ht⟩ : ∃ b, Y2.heap.size = b := ⟨_, rfl⟩
          obtain ⟨Y3, hY⟩ : ∃ Z, Y2.alloc (.cells #[.slice none 0 0, .slice none 0 0] 35) = Z := ⟨_, rfl⟩
          rewrite [hY, ht]
          have hb : Below Y2.heap.size Y2 Y3 := by rw [← hY]; exact below_alloc _
          have A4 : RB t4 #[.slice none 0 0, .slice none 0 0] Y3 := by rw [← hY, ← ht]; exact RB.new _ _
          have HT4 : X5.heap.size ≤ t4 := by rw [← ht]; exact D2.size
          have NE14 : (∀ a, q7 = some a → 0 < n7 → a.block ≠ t4) ∧ ∀ a, r7 = some a → 0 < m7 → a.block ≠ t4 := by rw [← ht]; exact R1.ne
          have NE34 : (∀ a, q8 = some a → 0 < n8 → a.block ≠ t4) ∧ ∀ a, r8 = some a → 0 < m8 → a.block ≠ t4 := by rw [← ht]; exact R3.ne
          have D3 := D2.trans (hb.mono D2.size)
          replace R1 := R1.below hb
          replace R3 := R3.below hb
          clear hb hY ht D2
          refine hK _ _ ⟨(L5.on D3).c0, (L5.on D3).c1, (L6.on D3).c0, (L6.on D3).c1⟩ ?_
          clear hK K
          refine plist #[true, true, true, true, true, false, false, false] (by kernel_rfl) ?_
          refine pone 5 (by kernel_rfl) rfl fun K hK => ?_
          go_simp
          obtain ⟨t5, ht⟩ : ∃ b, Y3.heap.size = b := ⟨_, rfl⟩
          obtain ⟨Y4, hY⟩ : ∃ Z, Y3.alloc (.cells #[.slice none 0 0, .slice none 0 0] 35) = Z := ⟨_, rfl⟩
          rewrite [hY, ht]
          have hb : Below Y3.heap.size Y3 Y4 := by rw [← hY]; exact below_alloc _
          have A5 : RB t5 #[.slice none 0 0, .slice none 0 0] Y4 := by rw [← hY, ← ht]; exact RB.new _ _
          have HT5 : X5.heap.size ≤ t5 := by rw [← ht]; exact D3.size
          have NE15 : (∀ a, q7 = some a → 0 < n7 → a.block ≠ t5) ∧ ∀ a, r7 = some a → 0 < m7 → a.block ≠ t5 := by rw [← ht]; exact R1.ne
          have NE35 : (∀ a, q8 = some a → 0 < n8 → a.block ≠ t5) ∧ ∀ a, r8 = some a → 0 < m8 → a.block ≠ t5 := by rw [← ht]; exact R3.ne
          have NT : t4 ≠ t5 := by have h1 := A4.lt; omega
          have D4 := D3.trans (hb.mono D3.size)
          replace R1 := R1.below hb
          replace R3 := R3.below hb
          replace A4 := A4.on hb
          clear hb hY ht D3
          refine hK _ _ ⟨(L5.on D4).c0, (L5.on D4).c1, (L6.on D4).c0, (L6.on D4).c1⟩ ?_
          clear hK K
          refine plist #[true, true, true, true, true, true, false, false] (by kernel_rfl) ?_
          refine pone 6 (by kernel_rfl) rfl fun K hK => ?_
          have kf0 := A4.frozen 0
          have kf1 := A4.frozen 1
          have z0 := A4.box 0 _ rfl
          have z1 := A4.box 1 _ rfl
          obtain ⟨Y5, hY, A4', hk, hB⟩ := A4.put (.slice q7 n7 c7) (.slice r7 m7 d7)
          go_simp
          (try rewrite [hY])
          replace R1 := R1.off A4 NE14 (hk _ (by simp))
          replace R3 := R3.off A4 NE34 (hk _ (by simp))
          replace A5 := A5.away (hk (fun b => b ≠ t4) (by simp)) (by omega)
          have D5 := D4.trans (hB _ HT4)
          clear hY hk hB kf0 kf1 z0 z1 A4 NE14 NE34 D4
          have A4 := A4'
          clear A4'
          refine hK _ _ ⟨(L5.on D5).c0, (L5.on D5).c1, (L6.on D5).c0, (L6.on D5).c1⟩ ?_
          clear hK K
          refine plist #[true, true, true, true, true, true, true, false] (by kernel_rfl) ?_
          refine pone 7 (by kernel_rfl) rfl fun K hK => ?_
          have kf0 := A5.frozen 0
          have kf1 := A5.frozen 1
          have z0 := A5.box 0 _ rfl
          have z1 := A5.box 1 _ rfl
          obtain ⟨Y6, hY, A5', hk, hB⟩ := A5.put (.slice q8 n8 c8) (.slice r8 m8 d8)
          go_simp
          (try rewrite [hY])
          replace R1 := R1.off A5 NE15 (hk _ (by simp))
          replace R3 := R3.off A5 NE35 (hk _ (by simp))
          replace A4 := A4.away (hk (fun b => b ≠ t5) (by simp)) (by omega)
          have D6 := D5.trans (hB _ HT5)
          clear hY hk hB kf0 kf1 z0 z1 A5 NE15 NE35 D5
          have A5 := A5'
          clear A5'
          refine hK _ _ ⟨(L5.on D6).c0, (L5.on D6).c1, (L6.on D6).c0, (L6.on D6).c1⟩ ?_
          clear hK K
          refine plist #[true, true, true, true, true, true, true, true] (by kernel_rfl) ?_
          refine pdone (by kernel_rfl) ?_ _
          go_wp2_with fail
          go_meet
          exact ⟨⟨_, q7, n7, c7, r7, m7, d7, rfl, A4, R1⟩, ⟨_, q8, n8, c8, r8, m8, d8, rfl, A5, R3⟩, D6⟩
        · skip
          go_simp
          obtain ⟨t5, ht⟩ : ∃ b, Y2.heap.size = b := ⟨_, rfl⟩
          obtain ⟨Y7, hY⟩ : ∃ Z, Y2.alloc (.cells #[.slice none 0 0, .slice none 0 0] 35) = Z := ⟨_, rfl⟩
          rewrite [hY, ht]
          have hb : Below Y2.heap.size Y2 Y7 := by rw [← hY]; exact below_alloc _
          have A5 : RB t5 #[.slice none 0 0, .slice none 0 0] Y7 := by rw [← hY, ← ht]; exact RB.new _ _
          have HT5 : X5.heap.size ≤ t5 := by rw [← ht]; exact D2.size
          have NE15 : (∀ a, q7 = some a → 0 < n7 → a.block ≠ t5) ∧ ∀ a, r7 = some a → 0 < m7 → a.block ≠ t5 := by rw [← ht]; exact R1.ne
          have NE35 : (∀ a, q8 = some a → 0 < n8 → a.block ≠ t5) ∧ ∀ a, r8 = some a → 0 < m8 → a.block ≠ t5 := by rw [← ht]; exact R3.ne
          have D7 := D2.trans (hb.mono D2.size)
          replace R1 := R1.below hb
          replace R3 := R3.below hb
          clear hb hY ht D2
          refine hK _ _ ⟨(L5.on D7).c0, (L5.on D7).c1, (L6.on D7).c0, (L6.on D7).c1⟩ ?_
          clear hK K
          refine plist #[true, true, true, true, false, true, false, false] (by kernel_rfl) ?_
          refine pone 4 (by kernel_rfl) rfl fun K hK => ?_
          go_simp
          obtain ⟨t4, ht⟩ : ∃ b, Y7.heap.size = b := ⟨_, rfl⟩
          obtain ⟨Y8, hY⟩ : ∃ Z, Y7.alloc (.cells #[.slice none 0 0, .slice none 0 0] 35) = Z := ⟨_, rfl⟩
          rewrite [hY, ht]
          have hb : Below Y7.heap.size Y7 Y8 := by rw [← hY]; exact below_alloc _
          have A4 : RB t4 #[.slice none 0 0, .slice none 0 0] Y8 := by rw [← hY, ← ht]; exact RB.new _ _
          have HT4 : X5.heap.size ≤ t4 := by rw [← ht]; exact D7.size
          have NE14 : (∀ a, q7 = some a → 0 < n7 → a.block ≠ t4) ∧ ∀ a, r7 = some a → 0 < m7 → a.block ≠ t4 := by rw [← ht]; exact R1.ne
          have NE34 : (∀ a, q8 = some a → 0 < n8 → a.block ≠ t4) ∧ ∀ a, r8 = some a → 0 < m8 → a.block ≠ t4 := by rw [← ht]; exact R3.ne
          have NT : t5 ≠ t4 := by have h1 := A5.lt; omega
          have D8 := D7.trans (hb.mono D7.size)
          replace R1 := R1.below hb
          replace R3 := R3.below hb
          replace A5 := A5.on hb
          clear hb hY ht D7
          refine hK _ _ ⟨(L5.on D8).c0, (L5.on D8).c1, (L6.on D8).c0, (L6.on D8).c1⟩ ?_
          clear hK K
          refine plist #[true, true, true, true, true, true, false, false] (by kernel_rfl) ?_
          refine pone 6 (by kernel_rfl) rfl fun K hK => ?_
          have kf0 := A4.frozen 0
          have kf1 := A4.frozen 1
          have z0 := A4.box 0 _ rfl
          have z1 := A4.box 1 _ rfl
          obtain ⟨Y9, hY, A4', hk, hB⟩ := A4.put (.slice q7 n7 c7) (.slice r7 m7 d7)
          go_simp
          (try rewrite [hY])
          replace R1 := R1.off A4 NE14 (hk _ (by simp))
          replace R3 := R3.off A4 NE34 (hk _ (by simp))
          replace A5 := A5.away (hk (fun b => b ≠ t4) (by simp)) (by omega)
          have D9 := D8.trans (hB _ HT4)
          clear hY hk hB kf0 kf1 z0 z1 A4 NE14 NE34 D8
          have A4 := A4'
          clear A4'
          refine hK _ _ ⟨(L5.on D9).c0, (L5.on D9).c1, (L6.on D9).c0, (L6.on D9).c1⟩ ?_
          clear hK K
          refine plist #[true, true, true, true, true, true, true, false] (by kernel_rfl) ?_
          refine pone 7 (by kernel_rfl) rfl fun K hK => ?_
          have kf0 := A5.frozen 0
          have kf1 := A5.frozen 1
          have z0 := A5.box 0 _ rfl
          have z1 := A5.box 1 _ rfl
          obtain ⟨Y10, hY, A5', hk, hB⟩ := A5.put (.slice q8 n8 c8) (.slice r8 m8 d8)
          go_simp
          (try rewrite [hY])
          replace R1 := R1.off A5 NE15 (hk _ (by simp))
          replace R3 := R3.off A5 NE35 (hk _ (by simp))
          replace A4 := A4.away (hk (fun b => b ≠ t5) (by simp)) (by omega)
          have D10 := D9.trans (hB _ HT5)
          clear hY hk hB kf0 kf1 z0 z1 A5 NE15 NE35 D9
          have A5 := A5'
          clear A5'
          refine hK _ _ ⟨(L5.on D10).c0, (L5.on D10).c1, (L6.on D10).c0, (L6.on D10).c1⟩ ?_
          clear hK K
          refine plist #[true, true, true, true, true, true, true, true] (by kernel_rfl) ?_
          refine pdone (by kernel_rfl) ?_ _
          go_wp2_with fail
          go_meet
          exact ⟨⟨_, q7, n7, c7, r7, m7, d7, rfl, A4, R1⟩, ⟨_, q8, n8, c8, r8, m8, d8, rfl, A5, R3⟩, D10⟩
      · skip
        go_simp
        obtain ⟨t4, ht⟩ : ∃ b, Y1.heap.size = b := ⟨_, rfl⟩
        obtain ⟨Y11, hY⟩ : ∃ Z, Y1.alloc (.cells #[.slice none 0 0, .slice none 0 0] 35) = Z := ⟨_, rfl⟩
        rewrite [hY, ht]
        have hb : Below Y1.heap.size Y1 Y11 := by rw [← hY]; exact below_alloc _
        have A4 : RB t4 #[.slice none 0 0, .slice none 0 0] Y11 := by rw [← hY, ← ht]; exact RB.new _ _
        have HT4 : X5.heap.size ≤ t4 := by rw [← ht]; exact D1.size
        have NE14 : (∀ a, q7 = some a → 0 < n7 → a.block ≠ t4) ∧ ∀ a, r7 = some a → 0 < m7 → a.block ≠ t4 := by rw [← ht]; exact R1.ne
        have D11 := D1.trans (hb.mono D1.size)
        replace R1 := R1.below hb
        clear hb hY ht D1
        refine hK _ _ ⟨(L5.on D11).c0, (L5.on D11).c1, (L6.on D11).c0, (L6.on D11).c1⟩ ?_
        clear hK K
        refine plist #[true, true, true, false, true, false, false, false] (by kernel_rfl) ?_
        refine ptwoQ 3 5 (by kernel_rfl) rfl rfl (fun K hK => ?_) (fun K hK => ?_)
        · skip
          have con := HRC.out Y11 _ o (L6.on D11).2 fo
          go_simp
          refine con.mono ?_
          rintro e Y12 ⟨q8, n8, c8, r8, m8, d8, rfl, R3, k3, k3', hb⟩
          have NE34 : (∀ a, q8 = some a → 0 < n8 → a.block ≠ t4) ∧ ∀ a, r8 = some a → 0 < m8 → a.block ≠ t4 := ⟨fun a h _ => by have h1 := k3 a h; have h2 := A4.lt; omega, fun a h _ => by have h1 := k3' a h; have h2 := A4.lt; omega⟩
          have D12 := D11.trans (hb.mono D11.size)
          replace R1 := R1.below hb
          replace A4 := A4.on hb
          clear con hb k3 k3' D11
          refine hK _ _ ⟨(L5.on D12).c0, (L5.on D12).c1, (L6.on D12).c0, (L6.on D12).c1⟩ ?_
          clear hK K
          refine plist #[true, true, true, true, true, false, false, false] (by kernel_rfl) ?_
          refine pone 5 (by kernel_rfl) rfl fun K hK => ?_
          go_simp
          obtain ⟨t5, ht⟩ : ∃ b, Y12.heap.size = b := ⟨_, rfl⟩
          obtain ⟨Y13, hY⟩ : ∃ Z, Y12.alloc (.cells #[.slice none 0 0, .slice none 0 0] 35) = Z := ⟨_, rfl⟩
          rewrite [hY, ht]
          have hb : Below Y12.heap.size Y12 Y13 := by rw [← hY]; exact below_alloc _
          have A5 : RB t5 #[.slice none 0 0, .slice none 0 0] Y13 := by rw [← hY, ← ht]; exact RB.new _ _
          have HT5 : X5.heap.size ≤ t5 := by rw [← ht]; exact D12.size
          have NE15 : (∀ a, q7 = some a → 0 < n7 → a.block ≠ t5) ∧ ∀ a, r7 = some a → 0 < m7 → a.block ≠ t5 := by rw [← ht]; exact R1.ne
          have NE35 : (∀ a, q8 = some a → 0 < n8 → a.block ≠ t5) ∧ ∀ a, r8 = some a → 0 < m8 → a.block ≠ t5 := by rw [← ht]; exact R3.ne
          have NT : t4 ≠ t5 := by have h1 := A4.lt; omega
          have D13 := D12.trans (hb.mono D12.size)
          replace R1 := R1.below hb
          replace R3 := R3.below hb
          replace A4 := A4.on hb
          clear hb hY ht D12
          refine hK _ _ ⟨(L5.on D13).c0, (L5.on D13).c1, (L6.on D13).c0, (L6.on D13).c1⟩ ?_
          clear hK K
          refine plist #[true, true, true, true, true, true, false, false] (by kernel_rfl) ?_
          refine pone 6 (by kernel_rfl) rfl fun K hK => ?_
          have kf0 := A4.frozen 0
          have kf1 := A4.frozen 1
          have z0 := A4.box 0 _ rfl
          have z1 := A4.box 1 _ rfl
          obtain ⟨Y14, hY, A4', hk, hB⟩ := A4.put (.slice q7 n7 c7) (.slice r7 m7 d7)
          go_simp
          (try rewrite [hY])
          replace R1 := R1.off A4 NE14 (hk _ (by simp))
          replace R3 := R3.off A4 NE34 (hk _ (by simp))
          replace A5 := A5.away (hk (fun b => b ≠ t4) (by simp)) (by omega)
          have D14 := D13.trans (hB _ HT4)
          clear hY hk hB kf0 kf1 z0 z1 A4 NE14 NE34 D13
          have A4 := A4'
          clear A4'
          refine hK _ _ ⟨(L5.on D14).c0, (L5.on D14).c1, (L6.on D14).c0, (L6.on D14).c1⟩ ?_
          clear hK K
          refine plist #[true, true, true, true, true, true, true, false] (by kernel_rfl) ?_
          refine pone 7 (by kernel_rfl) rfl fun K hK => ?_
          have kf0 := A5.frozen 0
          have kf1 := A5.frozen 1
          have z0 := A5.box 0 _ rfl
          have z1 := A5.box 1 _ rfl
          obtain ⟨Y15, hY, A5', hk, hB⟩ := A5.put (.slice q8 n8 c8) (.slice r8 m8 d8)
          go_simp
          (try rewrite [hY])
          replace R1 := R1.off A5 NE15 (hk _ (by simp))
          replace R3 := R3.off A5 NE35 (hk _ (by simp))
          replace A4 := A4.away (hk (fun b => b ≠ t5) (by simp)) (by omega)
          have D15 := D14.trans (hB _ HT5)
          clear hY hk hB kf0 kf1 z0 z1 A5 NE15 NE35 D14
          have A5 := A5'
          clear A5'
          refine hK _ _ ⟨(L5.on D15).c0, (L5.on D15).c1, (L6.on D15).c0, (L6.on D15).c1⟩ ?_
          clear hK K
          refine plist #[true, true, true, true, true, true, true, true] (by kernel_rfl) ?_
          refine pdone (by kernel_rfl) ?_ _
          go_wp2_with fail
          go_meet
          exact ⟨⟨_, q7, n7, c7, r7, m7, d7, rfl, A4, R1⟩, ⟨_, q8, n8, c8, r8, m8, d8, rfl, A5, R3⟩, D15⟩
        · skip
          go_simp
          obtain ⟨t5, ht⟩ : ∃ b, Y11.heap.size = b := ⟨_, rfl⟩
          obtain ⟨Y16, hY⟩ : ∃ Z, Y11.alloc (.cells #[.slice none 0 0, .slice none 0 0] 35) = Z := ⟨_, rfl⟩
          rewrite [hY, ht]
          have hb : Below Y11.heap.size Y11 Y16 := by rw [← hY]; exact below_alloc _
          have A5 : RB t5 #[.slice none 0 0, .slice none 0 0] Y16 := by rw [← hY, ← ht]; exact RB.new _ _
          have HT5 : X5.heap.size ≤ t5 := by rw [← ht]; exact D11.size
          have NE15 : (∀ a, q7 = some a → 0 < n7 → a.block ≠ t5) ∧ ∀ a, r7 = some a → 0 < m7 → a.block ≠ t5 := by rw [← ht]; exact R1.ne
          have NT : t4 ≠ t5 := by have h1 := A4.lt; omega
          have D16 := D11.trans (hb.mono D11.size)
          replace R1 := R1.below hb
          replace A4 := A4.on hb
          clear hb hY ht D11
          refine hK _ _ ⟨(L5.on D16).c0, (L5.on D16).c1, (L6.on D16).c0, (L6.on D16).c1⟩ ?_
          clear hK K
          refine plist #[true, true, true, false, true, true, false, false] (by kernel_rfl) ?_
          refine pone 3 (by kernel_rfl) rfl fun K hK => ?_
          have con := HRC.out Y16 _ o (L6.on D16).2 fo
          go_simp
          refine con.mono ?_
          rintro e Y17 ⟨q8, n8, c8, r8, m8, d8, rfl, R3, k3, k3', hb⟩
          have NE34 : (∀ a, q8 = some a → 0 < n8 → a.block ≠ t4) ∧ ∀ a, r8 = some a → 0 < m8 → a.block ≠ t4 := ⟨fun a h _ => by have h1 := k3 a h; have h2 := A4.lt; omega, fun a h _ => by have h1 := k3' a h; have h2 := A4.lt; omega⟩
          have NE35 : (∀ a, q8 = some a → 0 < n8 → a.block ≠ t5) ∧ ∀ a, r8 = some a → 0 < m8 → a.block ≠ t5 := ⟨fun a h _ => by have h1 := k3 a h; have h2 := A5.lt; omega, fun a h _ => by have h1 := k3' a h; have h2 := A5.lt; omega⟩
          have D17 := D16.trans (hb.mono D16.size)
          replace R1 := R1.below hb
          replace A4 := A4.on hb
          replace A5 := A5.on hb
          clear con hb k3 k3' D16
          refine hK _ _ ⟨(L5.on D17).c0, (L5.on D17).c1, (L6.on D17).c0, (L6.on D17).c1⟩ ?_
          clear hK K
          refine plist #[true, true, true, true, true, true, false, false] (by kernel_rfl) ?_
          refine pone 6 (by kernel_rfl) rfl fun K hK => ?_
          have kf0 := A4.frozen 0
          have kf1 := A4.frozen 1
          have z0 := A4.box 0 _ rfl
          have z1 := A4.box 1 _ rfl
          obtain ⟨Y18, hY, A4', hk, hB⟩ := A4.put (.slice q7 n7 c7) (.slice r7 m7 d7)
          go_simp
          (try rewrite [hY])
          replace R1 := R1.off A4 NE14 (hk _ (by simp))
          replace R3 := R3.off A4 NE34 (hk _ (by simp))
          replace A5 := A5.away (hk (fun b => b ≠ t4) (by simp)) (by omega)
          have D18 := D17.trans (hB _ HT4)
          clear hY hk hB kf0 kf1 z0 z1 A4 NE14 NE34 D17
          have A4 := A4'
          clear A4'
          refine hK _ _ ⟨(L5.on D18).c0, (L5.on D18).c1, (L6.on D18).c0, (L6.on D18).c1⟩ ?_
          clear hK K
          refine plist #[true, true, true, true, true, true, true, false] (by kernel_rfl) ?_
          refine pone 7 (by kernel_rfl) rfl fun K hK => ?_
          have kf0 := A5.frozen 0
          have kf1 := A5.frozen 1
          have z0 := A5.box 0 _ rfl
          have z1 := A5.box 1 _ rfl
          obtain ⟨Y19, hY, A5', hk, hB⟩ := A5.put (.slice q8 n8 c8) (.slice r8 m8 d8)
          go_simp
          (try rewrite [hY])
          replace R1 := R1.off A5 NE15 (hk _ (by simp))
          replace R3 := R3.off A5 NE35 (hk _ (by simp))
          replace A4 := A4.away (hk (fun b => b ≠ t5) (by simp)) (by omega)
          have D19 := D18.trans (hB _ HT5)
          clear hY hk hB kf0 kf1 z0 z1 A5 NE15 NE35 D18
          have A5 := A5'
          clear A5'
          refine hK _ _ ⟨(L5.on D19).c0, (L5.on D19).c1, (L6.on D19).c0, (L6.on D19).c1⟩ ?_
          clear hK K
          refine plist #[true, true, true, true, true, true, true, true] (by kernel_rfl) ?_
          refine pdone (by kernel_rfl) ?_ _
          go_wp2_with fail
          go_meet
          exact ⟨⟨_, q7, n7, c7, r7, m7, d7, rfl, A4, R1⟩, ⟨_, q8, n8, c8, r8, m8, d8, rfl, A5, R3⟩, D19⟩
      · skip
        go_simp
        obtain ⟨t5, ht⟩ : ∃ b, Y1.heap.size = b := ⟨_, rfl⟩
        obtain ⟨Y20, hY⟩ : ∃ Z, Y1.alloc (.cells #[.slice none 0 0, .slice none 0 0] 35) = Z := ⟨_, rfl⟩
        rewrite [hY, ht]
        have hb : Below Y1.heap.size Y1 Y20 := by rw [← hY]; exact below_alloc _
        have A5 : RB t5 #[.slice none 0 0, .slice none 0 0] Y20 := by rw [← hY, ← ht]; exact RB.new _ _
        have HT5 : X5.heap.size ≤ t5 := by rw [← ht]; exact D1.size
        have NE15 : (∀ a, q7 = some a → 0 < n7 → a.block ≠ t5) ∧ ∀ a, r7 = some a → 0 < m7 → a.block ≠ t5 := by rw [← ht]; exact R1.ne
        have D20 := D1.trans (hb.mono D1.size)
        replace R1 := R1.below hb
        clear hb hY ht D1
        refine hK _ _ ⟨(L5.on D20).c0, (L5.on D20).c1, (L6.on D20).c0, (L6.on D20).c1⟩ ?_
        clear hK K
        refine plist #[true, true, true, false, false, true, false, false] (by kernel_rfl) ?_
        refine ptwoQ 3 4 (by kernel_rfl) rfl rfl (fun K hK => ?_) (fun K hK => ?_)
        · skip
          have con := HRC.out Y20 _ o (L6.on D20).2 fo
          go_simp
          refine con.mono ?_
          rintro e Y21 ⟨q8, n8, c8, r8, m8, d8, rfl, R3, k3, k3', hb⟩
          have NE35 : (∀ a, q8 = some a → 0 < n8 → a.block ≠ t5) ∧ ∀ a, r8 = some a → 0 < m8 → a.block ≠ t5 := ⟨fun a h _ => by have h1 := k3 a h; have h2 := A5.lt; omega, fun a h _ => by have h1 := k3' a h; have h2 := A5.lt; omega⟩
          have D21 := D20.trans (hb.mono D20.size)
          replace R1 := R1.below hb
          replace A5 := A5.on hb
          clear con hb k3 k3' D20
          refine hK _ _ ⟨(L5.on D21).c0, (L5.on D21).c1, (L6.on D21).c0, (L6.on D21).c1⟩ ?_
          clear hK K
          refine plist #[true, true, true, true, false, true, false, false] (by kernel_rfl) ?_
          refine pone 4 (by kernel_rfl) rfl fun K hK => ?_
          go_simp
          obtain ⟨t4, ht⟩ : ∃ b, Y21.heap.size = b := ⟨_, rfl⟩
          obtain ⟨Y22, hY⟩ : ∃ Z, Y21.alloc (.cells #[.slice none 0 0, .slice none 0 0] 35) = Z := ⟨_, rfl⟩
          rewrite [hY, ht]
          have hb : Below Y21.heap.size Y21 Y22 := by rw [← hY]; exact below_alloc _
          have A4 : RB t4 #[.slice none 0 0, .slice none 0 0] Y22 := by rw [← hY, ← ht]; exact RB.new _ _
          have HT4 : X5.heap.size ≤ t4 := by rw [← ht]; exact D21.size
          have NE14 : (∀ a, q7 = some a → 0 < n7 → a.block ≠ t4) ∧ ∀ a, r7 = some a → 0 < m7 → a.block ≠ t4 := by rw [← ht]; exact R1.ne
          have NE34 : (∀ a, q8 = some a → 0 < n8 → a.block ≠ t4) ∧ ∀ a, r8 = some a → 0 < m8 → a.block ≠ t4 := by rw [← ht]; exact R3.ne
          have NT : t5 ≠ t4 := by have h1 := A5.lt; omega
          have D22 := D21.trans (hb.mono D21.size)
          replace R1 := R1.below hb
          replace R3 := R3.below hb
          replace A5 := A5.on hb
          clear hb hY ht D21
          refine hK _ _ ⟨(L5.on D22).c0, (L5.on D22).c1, (L6.on D22).c0, (L6.on D22).c1⟩ ?_
          clear hK K
          refine plist #[true, true, true, true, true, true, false, false] (by kernel_rfl) ?_
          refine pone 6 (by kernel_rfl) rfl fun K hK => ?_
          have kf0 := A4.frozen 0
          have kf1 := A4.frozen 1
          have z0 := A4.box 0 _ rfl
          have z1 := A4.box 1 _ rfl
          obtain ⟨Y23, hY, A4', hk, hB⟩ := A4.put (.slice q7 n7 c7) (.slice r7 m7 d7)
          go_simp
          (try rewrite [hY])
          replace R1 := R1.off A4 NE14 (hk _ (by simp))
          replace R3 := R3.off A4 NE34 (hk _ (by simp))
          replace A5 := A5.away (hk (fun b => b ≠ t4) (by simp)) (by omega)
          have D23 := D22.trans (hB _ HT4)
          clear hY hk hB kf0 kf1 z0 z1 A4 NE14 NE34 D22
          have A4 := A4'
          clear A4'
          refine hK _ _ ⟨(L5.on D23).c0, (L5.on D23).c1, (L6.on D23).c0, (L6.on D23).c1⟩ ?_
          clear hK K
          refine plist #[true, true, true, true, true, true, true, false] (by kernel_rfl) ?_
          refine pone 7 (by kernel_rfl) rfl fun K hK => ?_
          have kf0 := A5.frozen 0
          have kf1 := A5.frozen 1
          have z0 := A5.box 0 _ rfl
          have z1 := A5.box 1 _ rfl
          obtain ⟨Y24, hY, A5', hk, hB⟩ := A5.put (.slice q8 n8 c8) (.slice r8 m8 d8)
          go_simp
          (try rewrite [hY])
          replace R1 := R1.off A5 NE15 (hk _ (by simp))
          replace R3 := R3.off A5 NE35 (hk _ (by simp))
          replace A4 := A4.away (hk (fun b => b ≠ t5) (by simp)) (by omega)
          have D24 := D23.trans (hB _ HT5)
          clear hY hk hB kf0 kf1 z0 z1 A5 NE15 NE35 D23
          have A5 := A5'
          clear A5'
          refine hK _ _ ⟨(L5.on D24).c0, (L5.on D24).c1, (L6.on D24).c0, (L6.on D24).c1⟩ ?_
          clear hK K
          refine plist #[true, true, true, true, true, true, true, true] (by kernel_rfl) ?_
          refine pdone (by kernel_rfl) ?_ _
          go_wp2_with fail
          go_meet
          exact ⟨⟨_, q7, n7, c7, r7, m7, d7, rfl, A4, R1⟩, ⟨_, q8, n8, c8, r8, m8, d8, rfl, A5, R3⟩, D24⟩
        · skip
          go_simp
          obtain ⟨t4, ht⟩ : ∃ b, Y20.heap.size = b := ⟨_, rfl⟩
          obtain ⟨Y25, hY⟩ : ∃ Z, Y20.alloc (.cells #[.slice none 0 0, .slice none 0 0] 35) = Z := ⟨_, rfl⟩
          rewrite [hY, ht]
          have hb : Below Y20.heap.size Y20 Y25 := by rw [← hY]; exact below_alloc _
          have A4 : RB t4 #[.slice none 0 0, .slice none 0 0] Y25 := by rw [← hY, ← ht]; exact RB.new _ _
          have HT4 : X5.heap.size ≤ t4 := by rw [← ht]; exact D20.size
          have NE14 : (∀ a, q7 = some a → 0 < n7 → a.block ≠ t4) ∧ ∀ a, r7 = some a → 0 < m7 → a.block ≠ t4 := by rw [← ht]; exact R1.ne
          have NT : t5 ≠ t4 := by have h1 := A5.lt; omega
          have D25 := D20.trans (hb.mono D20.size)
          replace R1 := R1.below hb
          replace A5 := A5.on hb
          clear hb hY ht D20
          refine hK _ _ ⟨(L5.on D25).c0, (L5.on D25).c1, (L6.on D25).c0, (L6.on D25).c1⟩ ?_
          clear hK K
          refine plist #[true, true, true, false, true, true, false, false] (by kernel_rfl) ?_
          refine pone 3 (by kernel_rfl) rfl fun K hK => ?_
          have con := HRC.out Y25 _ o (L6.on D25).2 fo
          go_simp
          refine con.mono ?_
          rintro e Y26 ⟨q8, n8, c8, r8, m8, d8, rfl, R3, k3, k3', hb⟩
          have NE35 : (∀ a, q8 = some a → 0 < n8 → a.block ≠ t5) ∧ ∀ a, r8 = some a → 0 < m8 → a.block ≠ t5 := ⟨fun a h _ => by have h1 := k3 a h; have h2 := A5.lt; omega, fun a h _ => by have h1 := k3' a h; have h2 := A5.lt; omega⟩
          have NE34 : (∀ a, q8 = some a → 0 < n8 → a.block ≠ t4) ∧ ∀ a, r8 = some a → 0 < m8 → a.block ≠ t4 := ⟨fun a h _ => by have h1 := k3 a h; have h2 := A4.lt; omega, fun a h _ => by have h1 := k3' a h; have h2 := A4.lt; omega⟩
          have D26 := D25.trans (hb.mono D25.size)
          replace R1 := R1.below hb
          replace A5 := A5.on hb
          replace A4 := A4.on hb
          clear con hb k3 k3' D25
          refine hK _ _ ⟨(L5.on D26).c0, (L5.on D26).c1, (L6.on D26).c0, (L6.on D26).c1⟩ ?_
          clear hK K
          refine plist #[true, true, true, true, true, true, false, false] (by kernel_rfl) ?_
          refine pone 6 (by kernel_rfl) rfl fun K hK => ?_
          have kf0 := A4.frozen 0
          have kf1 := A4.frozen 1
          have z0 := A4.box 0 _ rfl
          have z1 := A4.box 1 _ rfl
          obtain ⟨Y27, hY, A4', hk, hB⟩ := A4.put (.slice q7 n7 c7) (.slice r7 m7 d7)
          go_simp
          (try rewrite [hY])
          replace R1 := R1.off A4 NE14 (hk _ (by simp))
          replace R3 := R3.off A4 NE34 (hk _ (by simp))
          replace A5 := A5.away (hk (fun b => b ≠ t4) (by simp)) (by omega)
          have D27 := D26.trans (hB _ HT4)
          clear hY hk hB kf0 kf1 z0 z1 A4 NE14 NE34 D26
          have A4 := A4'
          clear A4'
          refine hK _ _ ⟨(L5.on D27).c0, (L5.on D27).c1, (L6.on D27).c0, (L6.on D27).c1⟩ ?_
          clear hK K
          refine plist #[true, true, true, true, true, true, true, false] (by kernel_rfl) ?_
          refine pone 7 (by kernel_rfl) rfl fun K hK => ?_
          have kf0 := A5.frozen 0
          have kf1 := A5.frozen 1
          have z0 := A5.box 0 _ rfl
          have z1 := A5.box 1 _ rfl
          obtain ⟨Y28, hY, A5', hk, hB⟩ := A5.put (.slice q8 n8 c8) (.slice r8 m8 d8)
          go_simp
          (try rewrite [hY])
          replace R1 := R1.off A5 NE15 (hk _ (by simp))
          replace R3 := R3.off A5 NE35 (hk _ (by simp))
          replace A4 := A4.away (hk (fun b => b ≠ t5) (by simp)) (by omega)
          have D28 := D27.trans (hB _ HT5)
          clear hY hk hB kf0 kf1 z0 z1 A5 NE15 NE35 D27
          have A5 := A5'
          clear A5'
          refine hK _ _ ⟨(L5.on D28).c0, (L5.on D28).c1, (L6.on D28).c0, (L6.on D28).c1⟩ ?_
          clear hK K
          refine plist #[true, true, true, true, true, true, true, true] (by kernel_rfl) ?_
          refine pdone (by kernel_rfl) ?_ _
          go_wp2_with fail
          go_meet
          exact ⟨⟨_, q7, n7, c7, r7, m7, d7, rfl, A4, R1⟩, ⟨_, q8, n8, c8, r8, m8, d8, rfl, A5, R3⟩, D28⟩
    · skip
      go_simp
      obtain ⟨t4, ht⟩ : ∃ b, Y0.heap.size = b := ⟨_, rfl⟩
      obtain ⟨Y29, hY⟩ : ∃ Z, Y0.alloc (.cells #[.slice none 0 0, .slice none 0 0] 35) = Z := ⟨_, rfl⟩
      rewrite [hY, ht]
      have hb : Below Y0.heap.size Y0 Y29 := by rw [← hY]; exact below_alloc _
      have A4 : RB t4 #[.slice none 0 0, .slice none 0 0] Y29 := by rw [← hY, ← ht]; exact RB.new _ _
      have HT4 : X5.heap.size ≤ t4 := by rw [← ht]; exact D0.size
      have D29 := D0.trans (hb.mono D0.size)
      clear hb hY ht D0
      refine hK _ _ ⟨(L5.on D29).c0, (L5.on D29).c1, (L6.on D29).c0, (L6.on D29).c1⟩ ?_
      clear hK K
      refine plist #[true, false, true, false, true, false, false, false] (by kernel_rfl) ?_
      refine ptwoQ 1 5 (by kernel_rfl) rfl rfl (fun K hK => ?_) (fun K hK => ?_)
      · skip
        have con := HRC.out Y29 _ l (L5.on D29).2 fl
        go_simp
        refine con.mono ?_
        rintro e Y30 ⟨q7, n7, c7, r7, m7, d7, rfl, R1, k1, k1', hb⟩
        have NE14 : (∀ a, q7 = some a → 0 < n7 → a.block ≠ t4) ∧ ∀ a, r7 = some a → 0 < m7 → a.block ≠ t4 := ⟨fun a h _ => by have h1 := k1 a h; have h2 := A4.lt; omega, fun a h _ => by have h1 := k1' a h; have h2 := A4.lt; omega⟩
        have D30 := D29.trans (hb.mono D29.size)
        replace A4 := A4.on hb
        clear con hb k1 k1' D29
        refine hK _ _ ⟨(L5.on D30).c0, (L5.on D30).c1, (L6.on D30).c0, (L6.on D30).c1⟩ ?_
        clear hK K
        refine plist #[true, true, true, false, true, false, false, false] (by kernel_rfl) ?_
        refine ptwoQ 3 5 (by kernel_rfl) rfl rfl (fun K hK => ?_) (fun K hK => ?_)
        · skip
          have con := HRC.out Y30 _ o (L6.on D30).2 fo
          go_simp
          refine con.mono ?_
          rintro e Y31 ⟨q8, n8, c8, r8, m8, d8, rfl, R3, k3, k3', hb⟩
          have NE34 : (∀ a, q8 = some a → 0 < n8 → a.block ≠ t4) ∧ ∀ a, r8 = some a → 0 < m8 → a.block ≠ t4 := ⟨fun a h _ => by have h1 := k3 a h; have h2 := A4.lt; omega, fun a h _ => by have h1 := k3' a h; have h2 := A4.lt; omega⟩
          have D31 := D30.trans (hb.mono D30.size)
          replace R1 := R1.below hb
          replace A4 := A4.on hb
          clear con hb k3 k3' D30
          refine hK _ _ ⟨(L5.on D31).c0, (L5.on D31).c1, (L6.on D31).c0, (L6.on D31).c1⟩ ?_
          clear hK K
          refine plist #[true, true, true, true, true, false, false, false] (by kernel_rfl) ?_
          refine pone 5 (by kernel_rfl) rfl fun K hK => ?_
          go_simp
          obtain ⟨t5, ht⟩ : ∃ b, Y31.heap.size = b := ⟨_, rfl⟩
          obtain ⟨Y32, hY⟩ : ∃ Z, Y31.alloc (.cells #[.slice none 0 0, .slice none 0 0] 35) = Z := ⟨_, rfl⟩
          rewrite [hY, ht]
          have hb : Below Y31.heap.size Y31 Y32 := by rw [← hY]; exact below_alloc _
          have A5 : RB t5 #[.slice none 0 0, .slice none 0 0] Y32 := by rw [← hY, ← ht]; exact RB.new _ _
          have HT5 : X5.heap.size ≤ t5 := by rw [← ht]; exact D31.size
          have NE15 : (∀ a, q7 = some a → 0 < n7 → a.block ≠ t5) ∧ ∀ a, r7 = some a → 0 < m7 → a.block ≠ t5 := by rw [← ht]; exact R1.ne
          have NE35 : (∀ a, q8 = some a → 0 < n8 → a.block ≠ t5) ∧ ∀ a, r8 = some a → 0 < m8 → a.block ≠ t5 := by rw [← ht]; exact R3.ne
          have NT : t4 ≠ t5 := by have h1 := A4.lt; omega
          have D32 := D31.trans (hb.mono D31.size)
          replace R1 := R1.below hb
          replace R3 := R3.below hb
          replace A4 := A4.on hb
          clear hb hY ht D31
          refine hK _ _ ⟨(L5.on D32).c0, (L5.on D32).c1, (L6.on D32).c0, (L6.on D32).c1⟩ ?_
          clear hK K
          refine plist #[true, true, true, true, true, true, false, false] (by kernel_rfl) ?_
          refine pone 6 (by kernel_rfl) rfl fun K hK => ?_
          have kf0 := A4.frozen 0
          have kf1 := A4.frozen 1
          have z0 := A4.box 0 _ rfl
          have z1 := A4.box 1 _ rfl
          obtain ⟨Y33, hY, A4', hk, hB⟩ := A4.put (.slice q7 n7 c7) (.slice r7 m7 d7)
          go_simp
          (try rewrite [hY])
          replace R1 := R1.off A4 NE14 (hk _ (by simp))
          replace R3 := R3.off A4 NE34 (hk _ (by simp))
          replace A5 := A5.away (hk (fun b => b ≠ t4) (by simp)) (by omega)
          have D33 := D32.trans (hB _ HT4)
          clear hY hk hB kf0 kf1 z0 z1 A4 NE14 NE34 D32
          have A4 := A4'
          clear A4'
          refine hK _ _ ⟨(L5.on D33).c0, (L5.on D33).c1, (L6.on D33).c0, (L6.on D33).c1⟩ ?_
          clear hK K
          refine plist #[true, true, true, true, true, true, true, false] (by kernel_rfl) ?_
          refine pone 7 (by kernel_rfl) rfl fun K hK => ?_
          have kf0 := A5.frozen 0
          have kf1 := A5.frozen 1
          have z0 := A5.box 0 _ rfl
          have z1 := A5.box 1 _ rfl
          obtain ⟨Y34, hY, A5', hk, hB⟩ := A5.put (.slice q8 n8 c8) (.slice r8 m8 d8)
          go_simp
          (try rewrite [hY])
          replace R1 := R1.off A5 NE15 (hk _ (by simp))
          replace R3 := R3.off A5 NE35 (hk _ (by simp))
          replace A4 := A4.away (hk (fun b => b ≠ t5) (by simp)) (by omega)
          have D34 := D33.trans (hB _ HT5)
          clear hY hk hB kf0 kf1 z0 z1 A5 NE15 NE35 D33
          have A5 := A5'
          clear A5'
          refine hK _ _ ⟨(L5.on D34).c0, (L5.on D34).c1, (L6.on D34).c0, (L6.on D34).c1⟩ ?_
          clear hK K
          refine plist #[true, true, true, true, true, true, true, true] (by kernel_rfl) ?_
          refine pdone (by kernel_rfl) ?_ _
          go_wp2_with fail
          go_meet
          exact ⟨⟨_, q7, n7, c7, r7, m7, d7, rfl, A4, R1⟩, ⟨_, q8, n8, c8, r8, m8, d8, rfl, A5, R3⟩, D34⟩
        · skip
          go_simp
          obtain ⟨t5, ht⟩ : ∃ b, Y30.heap.size = b := ⟨_, rfl⟩
          obtain ⟨Y35, hY⟩ : ∃ Z, Y30.alloc (.cells #[.slice none 0 0, .slice none 0 0] 35) = Z := ⟨_, rfl⟩
          rewrite [hY, ht]
          have hb : Below Y30.heap.size Y30 Y35 := by rw [← hY]; exact below_alloc _
          have A5 : RB t5 #[.slice none 0 0, .slice none 0 0] Y35 := by rw [← hY, ← ht]; exact RB.new _ _
          have HT5 : X5.heap.size ≤ t5 := by rw [← ht]; exact D30.size
          have NE15 : (∀ a, q7 = some a → 0 < n7 → a.block ≠ t5) ∧ ∀ a, r7 = some a → 0 < m7 → a.block ≠ t5 := by rw [← ht]; exact R1.ne
          have NT : t4 ≠ t5 := by have h1 := A4.lt; omega
          have D35 := D30.trans (hb.mono D30.size)
          replace R1 := R1.below hb
          replace A4 := A4.on hb
          clear hb hY ht D30
          refine hK _ _ ⟨(L5.on D35).c0, (L5.on D35).c1, (L6.on D35).c0, (L6.on D35).c1⟩ ?_
          clear hK K
          refine plist #[true, true, true, false, true, true, false, false] (by kernel_rfl) ?_
          refine pone 3 (by kernel_rfl) rfl fun K hK => ?_
          have con := HRC.out Y35 _ o (L6.on D35).2 fo
          go_simp
          refine con.mono ?_
          rintro e Y36 ⟨q8, n8, c8, r8, m8, d8, rfl, R3, k3, k3', hb⟩
          have NE34 : (∀ a, q8 = some a → 0 < n8 → a.block ≠ t4) ∧ ∀ a, r8 = some a → 0 < m8 → a.block ≠ t4 := ⟨fun a h _ => by have h1 := k3 a h; have h2 := A4.lt; omega, fun a h _ => by have h1 := k3' a h; have h2 := A4.lt; omega⟩
          have NE35 : (∀ a, q8 = some a → 0 < n8 → a.block ≠ t5) ∧ ∀ a, r8 = some a → 0 < m8 → a.block ≠ t5 := ⟨fun a h _ => by have h1 := k3 a h; have h2 := A5.lt; omega, fun a h _ => by have h1 := k3' a h; have h2 := A5.lt; omega⟩
          have D36 := D35.trans (hb.mono D35.size)
          replace R1 := R1.below hb
          replace A4 := A4.on hb
          replace A5 := A5.on hb
          clear con hb k3 k3' D35
          refine hK _ _ ⟨(L5.on D36).c0, (L5.on D36).c1, (L6.on D36).c0, (L6.on D36).c1⟩ ?_
          clear hK K
          refine plist #[true, true, true, true, true, true, false, false] (by kernel_rfl) ?_
          refine pone 6 (by kernel_rfl) rfl fun K hK => ?_
          have kf0 := A4.frozen 0
          have kf1 := A4.frozen 1
          have z0 := A4.box 0 _ rfl
          have z1 := A4.box 1 _ rfl
          obtain ⟨Y37, hY, A4', hk, hB⟩ := A4.put (.slice q7 n7 c7) (.slice r7 m7 d7)
          go_simp
          (try rewrite [hY])
          replace R1 := R1.off A4 NE14 (hk _ (by simp))
          replace R3 := R3.off A4 NE34 (hk _ (by simp))
          replace A5 := A5.away (hk (fun b => b ≠ t4) (by simp)) (by omega)
          have D37 := D36.trans (hB _ HT4)
          clear hY hk hB kf0 kf1 z0 z1 A4 NE14 NE34 D36
          have A4 := A4'
          clear A4'
          refine hK _ _ ⟨(L5.on D37).c0, (L5.on D37).c1, (L6.on D37).c0, (L6.on D37).c1⟩ ?_
          clear hK K
          refine plist #[true, true, true, true, true, true, true, false] (by kernel_rfl) ?_
          refine pone 7 (by kernel_rfl) rfl fun K hK => ?_
          have kf0 := A5.frozen 0
          have kf1 := A5.frozen 1
          have z0 := A5.box 0 _ rfl
          have z1 := A5.box 1 _ rfl
          obtain ⟨Y38, hY, A5', hk, hB⟩ := A5.put (.slice q8 n8 c8) (.slice r8 m8 d8)
          go_simp
          (try rewrite [hY])
          replace R1 := R1.off A5 NE15 (hk _ (by simp))
          replace R3 := R3.off A5 NE35 (hk _ (by simp))
          replace A4 := A4.away (hk (fun b => b ≠ t5) (by simp)) (by omega)
          have D38 := D37.trans (hB _ HT5)
          clear hY hk hB kf0 kf1 z0 z1 A5 NE15 NE35 D37
          have A5 := A5'
          clear A5'
          refine hK _ _ ⟨(L5.on D38).c0, (L5.on D38).c1, (L6.on D38).c0, (L6.on D38).c1⟩ ?_
          clear hK K
          refine plist #[true, true, true, true, true, true, true, true] (by kernel_rfl) ?_
          refine pdone (by kernel_rfl) ?_ _
          go_wp2_with fail
          go_meet
          exact ⟨⟨_, q7, n7, c7, r7, m7, d7, rfl, A4, R1⟩, ⟨_, q8, n8, c8, r8, m8, d8, rfl, A5, R3⟩, D38⟩
      · skip
        go_simp
        obtain ⟨t5, ht⟩ : ∃ b, Y29.heap.size = b := ⟨_, rfl⟩
        obtain ⟨Y39, hY⟩ : ∃ Z, Y29.alloc (.cells #[.slice none 0 0, .slice none 0 0] 35) = Z := ⟨_, rfl⟩
        rewrite [hY, ht]
        have hb : Below Y29.heap.size Y29 Y39 := by rw [← hY]; exact below_alloc _
        have A5 : RB t5 #[.slice none 0 0, .slice none 0 0] Y39 := by rw [← hY, ← ht]; exact RB.new _ _
        have HT5 : X5.heap.size ≤ t5 := by rw [← ht]; exact D29.size
        have NT : t4 ≠ t5 := by have h1 := A4.lt; omega
        have D39 := D29.trans (hb.mono D29.size)
        replace A4 := A4.on hb
        clear hb hY ht D29
        refine hK _ _ ⟨(L5.on D39).c0, (L5.on D39).c1, (L6.on D39).c0, (L6.on D39).c1⟩ ?_
        clear hK K
        refine plist #[true, false, true, false, true, true, false, false] (by kernel_rfl) ?_
        refine pone 1 (by kernel_rfl) rfl fun K hK => ?_
        have con := HRC.out Y39 _ l (L5.on D39).2 fl
        go_simp
        refine con.mono ?_
        rintro e Y40 ⟨q7, n7, c7, r7, m7, d7, rfl, R1, k1, k1', hb⟩
        have NE14 : (∀ a, q7 = some a → 0 < n7 → a.block ≠ t4) ∧ ∀ a, r7 = some a → 0 < m7 → a.block ≠ t4 := ⟨fun a h _ => by have h1 := k1 a h; have h2 := A4.lt; omega, fun a h _ => by have h1 := k1' a h; have h2 := A4.lt; omega⟩
        have NE15 : (∀ a, q7 = some a → 0 < n7 → a.block ≠ t5) ∧ ∀ a, r7 = some a → 0 < m7 → a.block ≠ t5 := ⟨fun a h _ => by have h1 := k1 a h; have h2 := A5.lt; omega, fun a h _ => by have h1 := k1' a h; have h2 := A5.lt; omega⟩
        have D40 := D39.trans (hb.mono D39.size)
        replace A4 := A4.on hb
        replace A5 := A5.on hb
        clear con hb k1 k1' D39
        refine hK _ _ ⟨(L5.on D40).c0, (L5.on D40).c1, (L6.on D40).c0, (L6.on D40).c1⟩ ?_
        clear hK K
        refine plist #[true, true, true, false, true, true, false, false] (by kernel_rfl) ?_
        refine pone 3 (by kernel_rfl) rfl fun K hK => ?_
        have con := HRC.out Y40 _ o (L6.on D40).2 fo
        go_simp
        refine con.mono ?_
        rintro e Y41 ⟨q8, n8, c8, r8, m8, d8, rfl, R3, k3, k3', hb⟩
        have NE34 : (∀ a, q8 = some a → 0 < n8 → a.block ≠ t4) ∧ ∀ a, r8 = some a → 0 < m8 → a.block ≠ t4 := ⟨fun a h _ => by have h1 := k3 a h; have h2 := A4.lt; omega, fun a h _ => by have h1 := k3' a h; have h2 := A4.lt; omega⟩
        have NE35 : (∀ a, q8 = some a → 0 < n8 → a.block ≠ t5) ∧ ∀ a, r8 = some a → 0 < m8 → a.block ≠ t5 := ⟨fun a h _ => by have h1 := k3 a h; have h2 := A5.lt; omega, fun a h _ => by have h1 := k3' a h; have h2 := A5.lt; omega⟩
        have D41 := D40.trans (hb.mono D40.size)
        replace R1 := R1.below hb
        replace A4 := A4.on hb
        replace A5 := A5.on hb
        clear con hb k3 k3' D40
        refine hK _ _ ⟨(L5.on D41).c0, (L5.on D41).c1, (L6.on D41).c0, (L6.on D41).c1⟩ ?_
        clear hK K
        refine plist #[true, true, true, true, true, true, false, false] (by kernel_rfl) ?_
        refine pone 6 (by kernel_rfl) rfl fun K hK => ?_
        have kf0 := A4.frozen 0
        have kf1 := A4.frozen 1
        have z0 := A4.box 0 _ rfl
        have z1 := A4.box 1 _ rfl
        obtain ⟨Y42, hY, A4', hk, hB⟩ := A4.put (.slice q7 n7 c7) (.slice r7 m7 d7)
        go_simp
        (try rewrite [hY])
        replace R1 := R1.off A4 NE14 (hk _ (by simp))
        replace R3 := R3.off A4 NE34 (hk _ (by simp))
        replace A5 := A5.away (hk (fun b => b ≠ t4) (by simp)) (by omega)
        have D42 := D41.trans (hB _ HT4)
        clear hY hk hB kf0 kf1 z0 z1 A4 NE14 NE34 D41
        have A4 := A4'
        clear A4'
        refine hK _ _ ⟨(L5.on D42).c0, (L5.on D42).c1, (L6.on D42).c0, (L6.on D42).c1⟩ ?_
        clear hK K
        refine plist #[true, true, true, true, true, true, true, false] (by kernel_rfl) ?_
        refine pone 7 (by kernel_rfl) rfl fun K hK => ?_
        have kf0 := A5.frozen 0
        have kf1 := A5.frozen 1
        have z0 := A5.box 0 _ rfl
        have z1 := A5.box 1 _ rfl
        obtain ⟨Y43, hY, A5', hk, hB⟩ := A5.put (.slice q8 n8 c8) (.slice r8 m8 d8)
        go_simp
        (try rewrite [hY])
        replace R1 := R1.off A5 NE15 (hk _ (by simp))
        replace R3 := R3.off A5 NE35 (hk _ (by simp))
        replace A4 := A4.away (hk (fun b => b ≠ t5) (by simp)) (by omega)
        have D43 := D42.trans (hB _ HT5)
        clear hY hk hB kf0 kf1 z0 z1 A5 NE15 NE35 D42
        have A5 := A5'
        clear A5'
        refine hK _ _ ⟨(L5.on D43).c0, (L5.on D43).c1, (L6.on D43).c0, (L6.on D43).c1⟩ ?_
        clear hK K
        refine plist #[true, true, true, true, true, true, true, true] (by kernel_rfl) ?_
        refine pdone (by kernel_rfl) ?_ _
        go_wp2_with fail
        go_meet
        exact ⟨⟨_, q7, n7, c7, r7, m7, d7, rfl, A4, R1⟩, ⟨_, q8, n8, c8, r8, m8, d8, rfl, A5, R3⟩, D43⟩
    · skip
      go_simp
      obtain ⟨t5, ht⟩ : ∃ b, Y0.heap.size = b := ⟨_, rfl⟩
      obtain ⟨Y44, hY⟩ : ∃ Z, Y0.alloc (.cells #[.slice none 0 0, .slice none 0 0] 35) = Z := ⟨_, rfl⟩
      rewrite [hY, ht]
      have hb : Below Y0.heap.size Y0 Y44 := by rw [← hY]; exact below_alloc _
      have A5 : RB t5 #[.slice none 0 0, .slice none 0 0] Y44 := by rw [← hY, ← ht]; exact RB.new _ _
      have HT5 : X5.heap.size ≤ t5 := by rw [← ht]; exact D0.size
      have D44 := D0.trans (hb.mono D0.size)
      clear hb hY ht D0
      refine hK _ _ ⟨(L5.on D44).c0, (L5.on D44).c1, (L6.on D44).c0, (L6.on D44).c1⟩ ?_
      clear hK K
      refine plist #[true, false, true, false, false, true, false, false] (by kernel_rfl) ?_
      refine ptwoQ 1 4 (by kernel_rfl) rfl rfl (fun K hK => ?_) (fun K hK => ?_)
      · skip
        have con := HRC.out Y44 _ l (L5.on D44).2 fl
        go_simp
        refine con.mono ?_
        rintro e Y45 ⟨q7, n7, c7, r7, m7, d7, rfl, R1, k1, k1', hb⟩
        have NE15 : (∀ a, q7 = some a → 0 < n7 → a.block ≠ t5) ∧ ∀ a, r7 = some a → 0 < m7 → a.block ≠ t5 := ⟨fun a h _ => by have h1 := k1 a h; have h2 := A5.lt; omega, fun a h _ => by have h1 := k1' a h; have h2 := A5.lt; omega⟩
        have D45 := D44.trans (hb.mono D44.size)
        replace A5 := A5.on hb
        clear con hb k1 k1' D44
        refine hK _ _ ⟨(L5.on D45).c0, (L5.on D45).c1, (L6.on D45).c0, (L6.on D45).c1⟩ ?_
        clear hK K
        refine plist #[true, true, true, false, false, true, false, false] (by kernel_rfl) ?_
        refine ptwoQ 3 4 (by kernel_rfl) rfl rfl (fun K hK => ?_) (fun K hK => ?_)
        · skip
          have con := HRC.out Y45 _ o (L6.on D45).2 fo
          go_simp
          refine con.mono ?_
          rintro e Y46 ⟨q8, n8, c8, r8, m8, d8, rfl, R3, k3, k3', hb⟩
          have NE35 : (∀ a, q8 = some a → 0 < n8 → a.block ≠ t5) ∧ ∀ a, r8 = some a → 0 < m8 → a.block ≠ t5 := ⟨fun a h _ => by have h1 := k3 a h; have h2 := A5.lt; omega, fun a h _ => by have h1 := k3' a h; have h2 := A5.lt; omega⟩
          have D46 := D45.trans (hb.mono D45.size)
          replace R1 := R1.below hb
          replace A5 := A5.on hb
          clear con hb k3 k3' D45
          refine hK _ _ ⟨(L5.on D46).c0, (L5.on D46).c1, (L6.on D46).c0, (L6.on D46).c1⟩ ?_
          clear hK K
          refine plist #[true, true, true, true, false, true, false, false] (by kernel_rfl) ?_
          refine pone 4 (by kernel_rfl) rfl fun K hK => ?_
          go_simp
          obtain ⟨t4, ht⟩ : ∃ b, Y46.heap.size = b := ⟨_, rfl⟩
          obtain ⟨Y47, hY⟩ : ∃ Z, Y46.alloc (.cells #[.slice none 0 0, .slice none 0 0] 35) = Z := ⟨_, rfl⟩
          rewrite [hY, ht]
          have hb : Below Y46.heap.size Y46 Y47 := by rw [← hY]; exact below_alloc _
          have A4 : RB t4 #[.slice none 0 0, .slice none 0 0] Y47 := by rw [← hY, ← ht]; exact RB.new _ _
          have HT4 : X5.heap.size ≤ t4 := by rw [← ht]; exact D46.size
          have NE14 : (∀ a, q7 = some a → 0 < n7 → a.block ≠ t4) ∧ ∀ a, r7 = some a → 0 < m7 → a.block ≠ t4 := by rw [← ht]; exact R1.ne
          have NE34 : (∀ a, q8 = some a → 0 < n8 → a.block ≠ t4) ∧ ∀ a, r8 = some a → 0 < m8 → a.block ≠ t4 := by rw [← ht]; exact R3.ne
          have NT : t5 ≠ t4 := by have h1 := A5.lt; omega
          have D47 := D46.trans (hb.mono D46.size)
          replace R1 := R1.below hb
          replace R3 := R3.below hb
          replace A5 := A5.on hb
          clear hb hY ht D46
          refine hK _ _ ⟨(L5.on D47).c0, (L5.on D47).c1, (L6.on D47).c0, (L6.on D47).c1⟩ ?_
          clear hK K
          refine plist #[true, true, true, true, true, true, false, false] (by kernel_rfl) ?_
          refine pone 6 (by kernel_rfl) rfl fun K hK => ?_
          have kf0 := A4.frozen 0
          have kf1 := A4.frozen 1
          have z0 := A4.box 0 _ rfl
          have z1 := A4.box 1 _ rfl
          obtain ⟨Y48, hY, A4', hk, hB⟩ := A4.put (.slice q7 n7 c7) (.slice r7 m7 d7)
          go_simp
          (try rewrite [hY])
          replace R1 := R1.off A4 NE14 (hk _ (by simp))
          replace R3 := R3.off A4 NE34 (hk _ (by simp))
          replace A5 := A5.away (hk (fun b => b ≠ t4) (by simp)) (by omega)
          have D48 := D47.trans (hB _ HT4)
          clear hY hk hB kf0 kf1 z0 z1 A4 NE14 NE34 D47
          have A4 := A4'
          clear A4'
          refine hK _ _ ⟨(L5.on D48).c0, (L5.on D48).c1, (L6.on D48).c0, (L6.on D48).c1⟩ ?_
          clear hK K
          refine plist #[true, true, true, true, true, true, true, false] (by kernel_rfl) ?_
          refine pone 7 (by kernel_rfl) rfl fun K hK => ?_
          have kf0 := A5.frozen 0
          have kf1 := A5.frozen 1
          have z0 := A5.box 0 _ rfl
          have z1 := A5.box 1 _ rfl
          obtain ⟨Y49, hY, A5', hk, hB⟩ := A5.put (.slice q8 n8 c8) (.slice r8 m8 d8)
          go_simp
          (try rewrite [hY])
          replace R1 := R1.off A5 NE15 (hk _ (by simp))
          replace R3 := R3.off A5 NE35 (hk _ (by simp))
          replace A4 := A4.away (hk (fun b => b ≠ t5) (by simp)) (by omega)
          have D49 := D48.trans (hB _ HT5)
          clear hY hk hB kf0 kf1 z0 z1 A5 NE15 NE35 D48
          have A5 := A5'
          clear A5'
          refine hK _ _ ⟨(L5.on D49).c0, (L5.on D49).c1, (L6.on D49).c0, (L6.on D49).c1⟩ ?_
          clear hK K
          refine plist #[true, true, true, true, true, true, true, true] (by kernel_rfl) ?_
          refine pdone (by kernel_rfl) ?_ _
          go_wp2_with fail
          go_meet
          exact ⟨⟨_, q7, n7, c7, r7, m7, d7, rfl, A4, R1⟩, ⟨_, q8, n8, c8, r8, m8, d8, rfl, A5, R3⟩, D49⟩
        · skip
          go_simp
          obtain ⟨t4, ht⟩ : ∃ b, Y45.heap.size = b := ⟨_, rfl⟩
          obtain ⟨Y50, hY⟩ : ∃ Z, Y45.alloc (.cells #[.slice none 0 0, .slice none 0 0] 35) = Z := ⟨_, rfl⟩
          rewrite [hY, ht]
          have hb : Below Y45.heap.size Y45 Y50 := by rw [← hY]; exact below_alloc _
          have A4 : RB t4 #[.slice none 0 0, .slice none 0 0] Y50 := by rw [← hY, ← ht]; exact RB.new _ _
          have HT4 : X5.heap.size ≤ t4 := by rw [← ht]; exact D45.size
          have NE14 : (∀ a, q7 = some a → 0 < n7 → a.block ≠ t4) ∧ ∀ a, r7 = some a → 0 < m7 → a.block ≠ t4 := by rw [← ht]; exact R1.ne
          have NT : t5 ≠ t4 := by have h1 := A5.lt; omega
          have D50 := D45.trans (hb.mono D45.size)
          replace R1 := R1.below hb
          replace A5 := A5.on hb
          clear hb hY ht D45
          refine hK _ _ ⟨(L5.on D50).c0, (L5.on D50).c1, (L6.on D50).c0, (L6.on D50).c1⟩ ?_
          clear hK K
          refine plist #[true, true, true, false, true, true, false, false] (by kernel_rfl) ?_
          refine pone 3 (by kernel_rfl) rfl fun K hK => ?_
          have con := HRC.out Y50 _ o (L6.on D50).2 fo
          go_simp
          refine con.mono ?_
          rintro e Y51 ⟨q8, n8, c8, r8, m8, d8, rfl, R3, k3, k3', hb⟩
          have NE35 : (∀ a, q8 = some a → 0 < n8 → a.block ≠ t5) ∧ ∀ a, r8 = some a → 0 < m8 → a.block ≠ t5 := ⟨fun a h _ => by have h1 := k3 a h; have h2 := A5.lt; omega, fun a h _ => by have h1 := k3' a h; have h2 := A5.lt; omega⟩
          have NE34 : (∀ a, q8 = some a → 0 < n8 → a.block ≠ t4) ∧ ∀ a, r8 = some a → 0 < m8 → a.block ≠ t4 := ⟨fun a h _ => by have h1 := k3 a h; have h2 := A4.lt; omega, fun a h _ => by have h1 := k3' a h; have h2 := A4.lt; omega⟩
          have D51 := D50.trans (hb.mono D50.size)
          replace R1 := R1.below hb
          replace A5 := A5.on hb
          replace A4 := A4.on hb
          clear con hb k3 k3' D50
          refine hK _ _ ⟨(L5.on D51).c0, (L5.on D51).c1, (L6.on D51).c0, (L6.on D51).c1⟩ ?_
          clear hK K
          refine plist #[true, true, true, true, true, true, false, false] (by kernel_rfl) ?_
          refine pone 6 (by kernel_rfl) rfl fun K hK => ?_
          have kf0 := A4.frozen 0
          have kf1 := A4.frozen 1
          have z0 := A4.box 0 _ rfl
          have z1 := A4.box 1 _ rfl
          obtain ⟨Y52, hY, A4', hk, hB⟩ := A4.put (.slice q7 n7 c7) (.slice r7 m7 d7)
          go_simp
          (try rewrite [hY])
          replace R1 := R1.off A4 NE14 (hk _ (by simp))
          replace R3 := R3.off A4 NE34 (hk _ (by simp))
          replace A5 := A5.away (hk (fun b => b ≠ t4) (by simp)) (by omega)
          have D52 := D51.trans (hB _ HT4)
          clear hY hk hB kf0 kf1 z0 z1 A4 NE14 NE34 D51
          have A4 := A4'
          clear A4'
          refine hK _ _ ⟨(L5.on D52).c0, (L5.on D52).c1, (L6.on D52).c0, (L6.on D52).c1⟩ ?_
          clear hK K
          refine plist #[true, true, true, true, true, true, true, false] (by kernel_rfl) ?_
          refine pone 7 (by kernel_rfl) rfl fun K hK => ?_
          have kf0 := A5.frozen 0
          have kf1 := A5.frozen 1
          have z0 := A5.box 0 _ rfl
          have z1 := A5.box 1 _ rfl
          obtain ⟨Y53, hY, A5', hk, hB⟩ := A5.put (.slice q8 n8 c8) (.slice r8 m8 d8)
          go_simp
          (try rewrite [hY])
          replace R1 := R1.off A5 NE15 (hk _ (by simp))
          replace R3 := R3.off A5 NE35 (hk _ (by simp))
          replace A4 := A4.away (hk (fun b => b ≠ t5) (by simp)) (by omega)
          have D53 := D52.trans (hB _ HT5)
          clear hY hk hB kf0 kf1 z0 z1 A5 NE15 NE35 D52
          have A5 := A5'
          clear A5'
          refine hK _ _ ⟨(L5.on D53).c0, (L5.on D53).c1, (L6.on D53).c0, (L6.on D53).c1⟩ ?_
          clear hK K
          refine plist #[true, true, true, true, true, true, true, true] (by kernel_rfl) ?_
          refine pdone (by kernel_rfl) ?_ _
          go_wp2_with fail
          go_meet
          exact ⟨⟨_, q7, n7, c7, r7, m7, d7, rfl, A4, R1⟩, ⟨_, q8, n8, c8, r8, m8, d8, rfl, A5, R3⟩, D53⟩
      · skip
        go_simp
        obtain ⟨t4, ht⟩ : ∃ b, Y44.heap.size = b := ⟨_, rfl⟩
        obtain ⟨Y54, hY⟩ : ∃ Z, Y44.alloc (.cells #[.slice none 0 0, .slice none 0 0] 35) = Z := ⟨_, rfl⟩
        rewrite [hY, ht]
        have hb : Below Y44.heap.size Y44 Y54 := by rw [← hY]; exact below_alloc _
        have A4 : RB t4 #[.slice none 0 0, .slice none 0 0] Y54 := by rw [← hY, ← ht]; exact RB.new _ _
        have HT4 : X5.heap.size ≤ t4 := by rw [← ht]; exact D44.size
        have NT : t5 ≠ t4 := by have h1 := A5.lt; omega
        have D54 := D44.trans (hb.mono D44.size)
        replace A5 := A5.on hb
        clear hb hY ht D44
        refine hK _ _ ⟨(L5.on D54).c0, (L5.on D54).c1, (L6.on D54).c0, (L6.on D54).c1⟩ ?_
        clear hK K
        refine plist #[true, false, true, false, true, true, false, false] (by kernel_rfl) ?_
        refine pone 1 (by kernel_rfl) rfl fun K hK => ?_
        have con := HRC.out Y54 _ l (L5.on D54).2 fl
        go_simp
        refine con.mono ?_
        rintro e Y55 ⟨q7, n7, c7, r7, m7, d7, rfl, R1, k1, k1', hb⟩
        have NE15 : (∀ a, q7 = some a → 0 < n7 → a.block ≠ t5) ∧ ∀ a, r7 = some a → 0 < m7 → a.block ≠ t5 := ⟨fun a h _ => by have h1 := k1 a h; have h2 := A5.lt; omega, fun a h _ => by have h1 := k1' a h; have h2 := A5.lt; omega⟩
        have NE14 : (∀ a, q7 = some a → 0 < n7 → a.block ≠ t4) ∧ ∀ a, r7 = some a → 0 < m7 → a.block ≠ t4 := ⟨fun a h _ => by have h1 := k1 a h; have h2 := A4.lt; omega, fun a h _ => by have h1 := k1' a h; have h2 := A4.lt; omega⟩
        have D55 := D54.trans (hb.mono D54.size)
        replace A5 := A5.on hb
        replace A4 := A4.on hb
        clear con hb k1 k1' D54
        refine hK _ _ ⟨(L5.on D55).c0, (L5.on D55).c1, (L6.on D55).c0, (L6.on D55).c1⟩ ?_
        clear hK K
        refine plist #[true, true, true, false, true, true, false, false] (by kernel_rfl) ?_
        refine pone 3 (by kernel_rfl) rfl fun K hK => ?_
        have con := HRC.out Y55 _ o (L6.on D55).2 fo
        go_simp
        refine con.mono ?_
        rintro e Y56 ⟨q8, n8, c8, r8, m8, d8, rfl, R3, k3, k3', hb⟩
        have NE35 : (∀ a, q8 = some a → 0 < n8 → a.block ≠ t5) ∧ ∀ a, r8 = some a → 0 < m8 → a.block ≠ t5 := ⟨fun a h _ => by have h1 := k3 a h; have h2 := A5.lt; omega, fun a h _ => by have h1 := k3' a h; have h2 := A5.lt; omega⟩
        have NE34 : (∀ a, q8 = some a → 0 < n8 → a.block ≠ t4) ∧ ∀ a, r8 = some a → 0 < m8 → a.block ≠ t4 := ⟨fun a h _ => by have h1 := k3 a h; have h2 := A4.lt; omega, fun a h _ => by have h1 := k3' a h; have h2 := A4.lt; omega⟩
        have D56 := D55.trans (hb.mono D55.size)
        replace R1 := R1.below hb
        replace A5 := A5.on hb
        replace A4 := A4.on hb
        clear con hb k3 k3' D55
        refine hK _ _ ⟨(L5.on D56).c0, (L5.on D56).c1, (L6.on D56).c0, (L6.on D56).c1⟩ ?_
        clear hK K
        refine plist #[true, true, true, true, true, true, false, false] (by kernel_rfl) ?_
        refine pone 6 (by kernel_rfl) rfl fun K hK => ?_
        have kf0 := A4.frozen 0
        have kf1 := A4.frozen 1
        have z0 := A4.box 0 _ rfl
        have z1 := A4.box 1 _ rfl
        obtain ⟨Y57, hY, A4', hk, hB⟩ := A4.put (.slice q7 n7 c7) (.slice r7 m7 d7)
        go_simp
        (try rewrite [hY])
        replace R1 := R1.off A4 NE14 (hk _ (by simp))
        replace R3 := R3.off A4 NE34 (hk _ (by simp))
        replace A5 := A5.away (hk (fun b => b ≠ t4) (by simp)) (by omega)
        have D57 := D56.trans (hB _ HT4)
        clear hY hk hB kf0 kf1 z0 z1 A4 NE14 NE34 D56
        have A4 := A4'
        clear A4'
        refine hK _ _ ⟨(L5.on D57).c0, (L5.on D57).c1, (L6.on D57).c0, (L6.on D57).c1⟩ ?_
        clear hK K
        refine plist #[true, true, true, true, true, true, true, false] (by kernel_rfl) ?_
        refine pone 7 (by kernel_rfl) rfl fun K hK => ?_
        have kf0 := A5.frozen 0
        have kf1 := A5.frozen 1
        have z0 := A5.box 0 _ rfl
        have z1 := A5.box 1 _ rfl
        obtain ⟨Y58, hY, A5', hk, hB⟩ := A5.put (.slice q8 n8 c8) (.slice r8 m8 d8)
        go_simp
        (try rewrite [hY])
        replace R1 := R1.off A5 NE15 (hk _ (by simp))
        replace R3 := R3.off A5 NE35 (hk _ (by simp))
        replace A4 := A4.away (hk (fun b => b ≠ t5) (by simp)) (by omega)
        have D58 := D57.trans (hB _ HT5)
        clear hY hk hB kf0 kf1 z0 z1 A5 NE15 NE35 D57
        have A5 := A5'
        clear A5'
        refine hK _ _ ⟨(L5.on D58).c0, (L5.on D58).c1, (L6.on D58).c0, (L6.on D58).c1⟩ ?_
        clear hK K
        refine plist #[true, true, true, true, true, true, true, true] (by kernel_rfl) ?_
        refine pdone (by kernel_rfl) ?_ _
        go_wp2_with fail
        go_meet
        exact ⟨⟨_, q7, n7, c7, r7, m7, d7, rfl, A4, R1⟩, ⟨_, q8, n8, c8, r8, m8, d8, rfl, A5, R3⟩, D58⟩
  case rest =>
  obtain ⟨⟨b7, q7, n7, c7, r7, m7, d7, rfl, R7⟩, ⟨b8, q8, n8, c8, r8, m8, d8, rfl, R8⟩, hb⟩ := hcut
  have B_6 := B_5.trans (hb.mono B_5.size)
  replace L5 := L5.on hb
  replace L6 := L6.on hb
  clear hb B_5 HRC
  generalize wc = X6 at *
  have x70 := R7.c0
  have x71 := R7.c1
  have x80 := R8.c0
  have x81 := R8.c1
  obtain ⟨X9, hX9⟩ : ∃ Z, X6.alloc (.cells #[.slice q7 n7 c7, .slice r7 m7 d7, .slice q8 n8 c8, .slice r8 m8 d8] 33) = Z := ⟨_, rfl⟩
  have hb : Below X6.heap.size X6 X9 := by rw [← hX9]; exact below_alloc _
  have hcell := cell_four X6 33 (.slice q7 n7 c7) (.slice r7 m7 d7) (.slice q8 n8 c8) (.slice r8 m8 d8)
  rw [hX9] at hcell
  have hsz : X6.heap.size < X9.heap.size := by rw [← hX9]; simp
  have B_9 := B_6.trans (hb.mono B_6.size)
  replace L5 := L5.on hb
  replace L6 := L6.on hb
  replace R7 := R7.on hb
  replace R8 := R8.on hb
  obtain ⟨p7, p7'⟩ := R7.parts
  obtain ⟨p8, p8'⟩ := R8.parts
  have n7l : n7 ≤ 16 := by rw [← p7.len]; exact fl.1
  have m7l : m7 ≤ 16 := by rw [← p7'.len]; exact fl.2
  have n8l : n8 ≤ 16 := by rw [← p8.len]; exact fo.1
  have m8l : m8 ≤ 16 := by rw [← p8'.len]; exact fo.2
  have con := refPrinN_any X6.heap.size [((q7, n7, c7), l.s), ((r7, m7, d7), l.i), ((q8, n8, c8), o.s), ((r8, m8, d8), o.i)] X9 4 rfl (by decide) (by decide) hsz
    (fun k r h => by
      rcases k with _ | _ | _ | _ | k
      · cases h; exact hcell 0 _ rfl
      · cases h; exact hcell 1 _ rfl
      · cases h; exact hcell 2 _ rfl
      · cases h; exact hcell 3 _ rfl
      · simp at h)
    (fun r h => by
      simp only [List.mem_cons, List.not_mem_nil, or_false] at h
      rcases h with rfl | rfl | rfl | rfl
      · exact ⟨p7, n7l⟩
      · exact ⟨p7', m7l⟩
      · exact ⟨p8, n8l⟩
      · exact ⟨p8', m8l⟩)
  have HX9 := Lib.hid hX9
  clear hX9 hb hcell hsz B_6 p7 p7' p8 p8'
  go_wp2_with fail
  rw [HX9.out]
  refine con.mono ?_
  rintro e X10 ⟨q9, n9, c9, rfl, s9, hb⟩
  have B_10 := B_9.trans (hb.mono B_9.size)
  replace L5 := L5.on hb
  replace L6 := L6.on hb
  replace R7 := R7.on hb
  replace R8 := R8.on hb
  replace s9 : SlIn encStr X10 q9 n9 (namesA [l.s, l.i, o.s, o.i]) := s9
  clear con hb B_9 HX9 x70 x71 x80 x81
  by_cases hnb : 8 < n9
  · have d1 : decide ((8 : Int) < (n9 : Int)) = true := by simp; omega
    clear L5 L6 R7 R8 s9 n7l m7l n8l m8l fl fo
    go_wp2
    go_ret
    exact ⟨rfl, B_10⟩
  have d1 : decide ((8 : Int) < (n9 : Int)) = false := by simp; omega
  have hn9 : n9 ≤ 8 := by omega
  have HN9 := Lib.hid s9.1
  generalize namesA [l.s, l.i, o.s, o.i] = names at *
  clear hnb
  go_wp2_with fail
  have hM : 2 ^ n9 ≤ 256 := pow8 n9 hn9
  have hpw := pow_wrap n9 hn9
  rw [hpw]
  rw [HN9.out] at HFW
  clear hpw d1
  generalize 2 ^ n9 = M at hM HFW ⊢
  obtain ⟨p7, p7'⟩ := R7.parts
  obtain ⟨p8, p8'⟩ := R8.parts
  have HQ1 := Lib.hid (fun k (hk : k < 256) => refHolds_any q8 n8 c8 o.s q9 n9 c9 names k X10 p8 s9 hk hn9 (by omega))
  have HQ2 := Lib.hid (fun k (hk : k < 256) => refHolds_any q7 n7 c7 l.s q9 n9 c9 names k X10 p7 s9 hk hn9 (by omega))
  have HQ3 := Lib.hid (fun k (hk : k < 256) => refHolds_any r7 m7 d7 l.i q9 n9 c9 names k X10 p7' s9 hk hn9 (by omega))
  have HQ4 := Lib.hid (fun k (hk : k < 256) => refHolds_any r8 m8 d8 o.i q9 n9 c9 names k X10 p8' s9 hk hn9 (by omega))
  have x70 := R7.c0
  have x71 := R7.c1
  have x80 := R8.c0
  have x81 := R8.c1
  clear p7 p7' p8 p8' s9 R7 R8 n7l m7l n8l m8l
  go_loop [10, 38] (fun s10 i => ∃ k : Nat, k ≤ M ∧ i = .int .i64 k ∧ s10 = .bool (flowK l o names k)) (fun _ i => M - (intOf i).toNat)
  case atStart => exact ⟨0, Nat.zero_le _, rfl, by rw [HF0.out]⟩
  case round =>
    obtain ⟨k, hk, rfl, rfl⟩ := hrel
    by_cases hlt : k < M
    · have hi := Lib.hid (HFS.out k)
      have con1 := Lib.hid (HQ1.out k (by omega))
      have con2 := Lib.hid (HQ2.out k (by omega))
      have con3 := Lib.hid (HQ3.out k (by omega))
      have con4 := Lib.hid (HQ4.out k (by omega))
      have HB := Lib.hid B_10
      clear L5 L6 B_10
      generalize holdsB o.s (setB names k) = P at hi con1
      generalize holdsB l.s (setB names k) = Q at hi con2
      generalize holdsB l.i (setB names k) = U at hi con3
      generalize holdsB o.i (setB names k) = V at hi con4
      generalize flowK l o names k = m1 at hi ⊢
      obtain ⟨m2, hm2⟩ : ∃ b, flowK l o names (k + 1) = b := ⟨_, rfl⟩
      rw [hm2] at hi
      have HM2 := Lib.hid hm2
      clear hm2 HFW HFS HF0 HQ1 HQ2 HQ3 HQ4
      cases m1 with
      | false =>
        go_wp2
        go_round
        case rel => exact ⟨k + 1, by omega, by go_num, by rw [HM2.out, hi.out]; rfl⟩
        case measure => simp [intOf]; omega
      | true =>
        have con := con1.out
        go_wp2_with fail
        refine con.mono ?_
        rintro e X11 ⟨rfl, rfl⟩
        clear con
        cases P with
        | false =>
          have con := con3.out
          go_wp2_with fail
          refine con.mono ?_
          rintro e X11 ⟨rfl, rfl⟩
          clear con
          cases U with
          | false =>
            go_wp2
            go_round
            case rel => exact ⟨k + 1, by omega, by go_num, by rw [HM2.out, hi.out]; rfl⟩
            case measure => simp [intOf]; omega
          | true =>
            have con := con4.out
            go_wp2_with fail
            refine con.mono ?_
            rintro e X11 ⟨rfl, rfl⟩
            clear con
            cases V with
            | false =>
              go_wp2
              go_round
              case rel => exact ⟨k + 1, by omega, by go_num, by rw [HM2.out, hi.out]; rfl⟩
              case measure => simp [intOf]; omega
            | true =>
              go_wp2
              go_round
              case rel => exact ⟨k + 1, by omega, by go_num, by rw [HM2.out, hi.out]; rfl⟩
              case measure => simp [intOf]; omega
        | true =>
          have con := con2.out
          go_wp2_with fail
          refine con.mono ?_
          rintro e X11 ⟨rfl, rfl⟩
          clear con
          cases Q with
          | false =>
            go_wp2
            go_round
            case rel => exact ⟨k + 1, by omega, by go_num, by rw [HM2.out, hi.out]; rfl⟩
            case measure => simp [intOf]; omega
          | true =>
            have con := con3.out
            go_wp2_with fail
            refine con.mono ?_
            rintro e X11 ⟨rfl, rfl⟩
            clear con
            cases U with
            | false =>
              go_wp2
              go_round
              case rel => exact ⟨k + 1, by omega, by go_num, by rw [HM2.out, hi.out]; rfl⟩
              case measure => simp [intOf]; omega
            | true =>
              have con := con4.out
              go_wp2_with fail
              refine con.mono ?_
              rintro e X11 ⟨rfl, rfl⟩
              clear con
              cases V with
              | false =>
                go_wp2
                go_round
                case rel => exact ⟨k + 1, by omega, by go_num, by rw [HM2.out, hi.out]; rfl⟩
                case measure => simp [intOf]; omega
              | true =>
                go_wp2
                go_round
                case rel => exact ⟨k + 1, by omega, by go_num, by rw [HM2.out, hi.out]; rfl⟩
                case measure => simp [intOf]; omega
    · obtain rfl : k = M := by omega
      have hF := Lib.hid HFW.out
      rw [hF.out]
      have con := Lbl.Flows_any _ _ l o X10 L5.2 L6.2 fl fo
      have x50 := L5.c0
      have x51 := L5.c1
      have x60 := L6.c0
      have x61 := L6.c1
      clear HFW HFS HF0 HQ1 HQ2 HQ3 HQ4 hF x70 x71 x80 x81
      generalize flowsB l o = m1 at con ⊢
      have e1 : (m1 == m1) = true := by cases m1 <;> rfl
      go_wp2_with fail
      refine con.mono ?_
      rintro e X11 ⟨rfl, hb⟩
      have B_11 := B_10.trans (hb.mono B_10.size)
      clear con hb B_10 x50 x51 x60 x61 L5 L6
      go_wp2
      go_ret
      exact ⟨by first | rfl | simp, B_11⟩

theorem proved : Rows.LabelMeansCardSaid := card walk
end Go.Proofs.YtdlofjcblcpgpaaGreatDoor.labelMeans
