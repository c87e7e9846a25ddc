/- LabelJoins: the law returns true at whatever input, and writes nothing that was there: its tied card. Conditions: none. -/
import Derived.Test.YtdlofjcblcpgpaaGreatDoorBaseG
import Derived.Deep.DeepCutAuto
namespace Go.Proofs.YtdlofjcblcpgpaaGreatDoor.labelJoins
open Go.RowKit Go.Shelf Url Org Frm Cls Lbl
attribute [local go_sem] Oper.semAt_some
set_option linter.unusedVariables false

theorem row_by {w : World} {a : Option Addr} {len cap : Nat} {zs : List Int} (h : IsRow .u8 w a len cap zs) : ∃ bs : List UInt8, By w (.slice a len cap) bs := by
  rcases h with ⟨rfl, rfl, rfl, rfl⟩ | ⟨x, rfl, h1, h2, h3, h4, h5⟩
  · exact ⟨[], by_nil w⟩
  · have hz : ∀ i, i < len → (Lib.numsL (Lib.bytesOf (zs.take len))).getD i 0 = zs.getD i 0 := fun i hi => by
      have hi' : i < zs.length := by omega
      have hw := bounds_u8 (h5 _ (List.getElem_mem hi'))
      have : (Lib.bytesOf (zs.take len)).getD i 0 = UInt8.ofNat (zs[i]).toNat := by
        simp [Lib.bytesOf, List.getD, hi, List.getElem?_eq_getElem hi']
      rw [numsL_getD _ _ (by simp [Lib.bytesOf]; omega), this, List.getD, List.getElem?_eq_getElem hi']
      simp only [Option.getD_some, UInt8.toNat_ofNat']
      omega
    refine ⟨Lib.bytesOf (zs.take len), By.of (by simp [Lib.bytesOf]; omega) h1 h2 (fun h => by cases h) (Lib.BytesIn.of_cells fun i hi => ?_)⟩
    rw [hz i hi]
    exact h4 i (by omega)

set_option maxRecDepth 100000 in
set_option maxHeartbeats 32000000 in
theorem walk : Walks := by
  intro a0 len0 cap0 z0 a1 len1 cap1 z1 w w0 w1 hG
  obtain ⟨ta, ha⟩ := row_by w0
  obtain ⟨tb, hb'⟩ := row_by w1
  clear w0 w1
  have con := lives_any w hG
  have HG := Lib.hid hG
  clear hG
  go_enter Tryz.func4, Tryz.ntmps4
  go_wp2_with fail
  refine con.mono ?_
  rintro e X1 ⟨rfl, B_1⟩
  clear con
  replace ha := ha.on B_1
  replace hb' := hb'.on B_1
  have con := lawOf_any a0 len0 cap0 ta X1 ha (HG.out.on B_1)
  have Hl := Lib.hid (parse_lab (ta.take 400))
  have HSl := Lib.hid (parse_lab_short (ta.take 400) (by rw [List.length_take]; omega))
  generalize labV (parseL (ta.take 400)) = l at con Hl HSl
  clear ha
  go_wp2_with fail
  refine con.mono ?_
  rintro e X2 ⟨q5, n5, c5, r5, m5, d5, rfl, s5, hb⟩
  have B_2 := B_1.trans (hb.mono B_1.size)
  replace hb' := hb'.on hb
  clear con hb B_1
  have con := lawOf_any a1 len1 cap1 tb X2 hb' (HG.out.on B_2)
  have Ho := Lib.hid (parse_lab (tb.take 400))
  have HSo := Lib.hid (parse_lab_short (tb.take 400) (by rw [List.length_take]; omega))
  generalize labV (parseL (tb.take 400)) = o at con Ho HSo
  clear hb'
  go_wp2_with fail
  refine con.mono ?_
  rintro e X3 ⟨q6, n6, c6, r6, m6, d6, rfl, s6, hb⟩
  have B_3 := B_2.trans (hb.mono B_2.size)
  replace s5 := s5.below hb
  clear con hb B_2
  obtain ⟨b5, hb5⟩ : ∃ b, X3.heap.size = b := ⟨_, rfl⟩
  obtain ⟨X4, hX4⟩ : ∃ Z, X3.alloc (.cells #[.slice q5 n5 c5, .slice r5 m5 d5] 28) = Z := ⟨_, rfl⟩
  have hb : Below X3.heap.size X3 X4 := by rw [← hX4]; exact below_alloc _
  have L5 : LX b5 q5 n5 c5 r5 m5 d5 l X4 := by rw [← hX4, ← hb5]; exact LX.new s5
  have hz4 : X4.heap.size = b5 + 1 := by rw [← hX4, ← hb5]; simp
  have B_4 := B_3.trans (hb.mono B_3.size)
  replace s6 := s6.below hb
  obtain ⟨X5, hX5⟩ : ∃ Z, X4.alloc (.cells #[.slice q6 n6 c6, .slice r6 m6 d6] 28) = Z := ⟨_, rfl⟩
  have hb : Below X4.heap.size X4 X5 := by rw [← hX5]; exact below_alloc _
  have L6 : LX (b5 + 1) q6 n6 c6 r6 m6 d6 o X5 := by rw [← hX5, ← hz4]; exact LX.new s6
  have B_5 := B_4.trans (hb.mono B_4.size)
  replace L5 := L5.on hb
  have HX4 := Lib.hid hX4
  have HX5 := Lib.hid hX5
  have HB5 := Lib.hid hb5
  clear hX4 hX5 hb5 hz4 s5 s6 hb B_3 B_4
  have fl := lok_few Hl.out
  have fo := lok_few Ho.out
  have HRC := Lib.hid (fun X (v : Value) (l : Lab) (h : LabIs X v l) (f : Few l) => lawRef_any v l X h f)
  have HTS := Lib.hid (text_same l o Hl.out Ho.out (by rw [lab_len]; have := HSl.out; omega) (by rw [lab_len]; have := HSo.out; omega))
  have hjf := joinV_few l o Hl.out Ho.out
  have hmf := meetV_few l o Hl.out Ho.out
  obtain ⟨rj, hrj⟩ : ∃ r, joinR l o = r := ⟨_, rfl⟩
  obtain ⟨rm, hrm⟩ : ∃ r, meetR l o = r := ⟨_, rfl⟩
  have HJC := Lib.hid (fun X (h1 : LabIs X _ l) (h2 : LabIs X _ o) => hrj ▸ Join_any (.agg #[.slice q5 n5 c5, .slice r5 m5 d5]) (.agg #[.slice q6 n6 c6, .slice r6 m6 d6]) l o X h1 h2 fl fo)
  have HMC := Lib.hid (fun X (h1 : LabIs X _ l) (h2 : LabIs X _ o) => hrm ▸ Meet_any (.agg #[.slice q5 n5 c5, .slice r5 m5 d5]) (.agg #[.slice q6 n6 c6, .slice r6 m6 d6]) l o X h1 h2 fl fo)
  have HKC := Lib.hid (fun X v1 v2 (h1 : LabRef X v1 l) (h2 : LabRef X v2 o) => hrj ▸ refJoin_any v1 v2 l o X h1 h2 fl fo)
  have HNC := Lib.hid (fun X v1 v2 (h1 : LabRef X v1 l) (h2 : LabRef X v2 o) => hrm ▸ refMeet_any v1 v2 l o X h1 h2 fl fo)
  rw [hrj] at hjf
  rw [hrm] at hmf
  clear hrj hrm Hl Ho
  go_upto_region 4 with fail
  rewrite [HB5.out, HX4.out, HX5.out]
  clear HX4 HX5 HB5
  go_cut [7, 8] from 23 to 26 (fun s7 s8 X => HeldR s7 l X ∧ HeldR s8 o X ∧ Below X5.heap.size X5 X)
  case first =>
    have D0 : Below X5.heap.size X5 X5.drew := ⟨rfl, rfl, rfl, Nat.le_refl _, fun _ _ => rfl⟩
    refine pregion_any (fun X => X.cell? ⟨b5, 0, none⟩ = some (.slice q5 n5 c5) ∧ X.cell? ⟨b5, 1, none⟩ = some (.slice r5 m5 d5) ∧ X.cell? ⟨(b5 + 1), 0, none⟩ = some (.slice q6 n6 c6) ∧ X.cell? ⟨(b5 + 1), 1, none⟩ = some (.slice r6 m6 d6)) (by kernel_rfl) ?_
    obtain ⟨Y0, hXd⟩ : ∃ Z, X5.drew = Z := ⟨_, rfl⟩
    rw [hXd] at D0 ⊢
    clear hXd
    refine wpAnyH_take (i := 0) (v := (.agg #[.slice q5 n5 c5, .slice r5 m5 d5])) rfl (by kernel_rfl) (by kernel_rfl) (by kernel_rfl) (fun _ _ _ h => h) (.inl ⟨by kernel_rfl, ?_⟩) ⟨(L5.on D0).c0, (L5.on D0).c1, (L6.on D0).c0, (L6.on D0).c1⟩ ?_
    · rintro w ⟨h1, h2, h3, h4⟩; go_simp <;> omega
    refine plist #[true, false, false, false, false, false, false, false] (by kernel_rfl) ?_
    refine wpAnyH_take (i := 2) (v := (.agg #[.slice q6 n6 c6, .slice r6 m6 d6])) rfl (by kernel_rfl) (by kernel_rfl) (by kernel_rfl) (fun _ _ _ h => h) (.inl ⟨by kernel_rfl, ?_⟩) ⟨(L5.on D0).c0, (L5.on D0).c1, (L6.on D0).c0, (L6.on D0).c1⟩ ?_
    · rintro w ⟨h1, h2, h3, h4⟩; go_simp <;> omega
    refine plist #[true, false, true, false, false, false, false, false] (by kernel_rfl) ?_
    refine pthreeQ 1 4 5 (by kernel_rfl) rfl rfl rfl (fun K hK => ?_) (fun K hK => ?_) (fun K hK => ?_)
    · skip
      have con := HRC.out Y0 _ l (L5.on D0).2 fl
      go_simp
      refine con.mono ?_
      rintro e Y1 ⟨q7, n7, c7, r7, m7, d7, rfl, R1, k1, k1', hb⟩
      have D1 := D0.trans (hb.mono D0.size)
      clear con hb k1 k1' D0
      refine hK _ _ ⟨(L5.on D1).c0, (L5.on D1).c1, (L6.on D1).c0, (L6.on D1).c1⟩ ?_
      clear hK K
      refine plist #[true, true, true, false, false, false, false, false] (by kernel_rfl) ?_
      refine pthreeQ 3 4 5 (by kernel_rfl) rfl rfl rfl (fun K hK => ?_) (fun K hK => ?_) (fun K hK => ?_)
      · skip
        have con := HRC.out Y1 _ o (L6.on D1).2 fo
        go_simp
        refine con.mono ?_
        rintro e Y2 ⟨q8, n8, c8, r8, m8, d8, rfl, R3, k3, k3', hb⟩
        have D2 := D1.trans (hb.mono D1.size)
        replace R1 := R1.below hb
        clear con hb k3 k3' D1
        refine hK _ _ ⟨(L5.on D2).c0, (L5.on D2).c1, (L6.on D2).c0, (L6.on D2).c1⟩ ?_
        clear hK K
        refine plist #[true, true, true, true, false, false, false, false] (by kernel_rfl) ?_
        refine ptwoQ 4 5 (by kernel_rfl) rfl rfl (fun K hK => ?_) (fun K hK => ?_)
        · skip
          go_simp
          obtain ⟨t4, ht⟩ : ∃ b, Y2.heap.size = b := ⟨_, rfl⟩
          obtain ⟨Y3, hY⟩ : ∃ Z, Y2.alloc (.cells #[.slice none 0 0, .slice none 0 0] 35) = Z := ⟨_, rfl⟩
          rewrite [hY, ht]
          have hb : Below Y2.heap.size Y2 Y3 := by rw [← hY]; exact below_alloc _
          have A4 : RB t4 #[.slice none 0 0, .slice none 0 0] Y3 := by rw [← hY, ← ht]; exact RB.new _ _
          have HT4 : X5.heap.size ≤ t4 := by rw [← ht]; exact D2.size
          have NE14 : (∀ a, q7 = some a → 0 < n7 → a.block ≠ t4) ∧ ∀ a, r7 = some a → 0 < m7 → a.block ≠ t4 := by rw [← ht]; exact R1.ne
          have NE34 : (∀ a, q8 = some a → 0 < n8 → a.block ≠ t4) ∧ ∀ a, r8 = some a → 0 < m8 → a.block ≠ t4 := by rw [← ht]; exact R3.ne
          have D3 := D2.trans (hb.mono D2.size)
          replace R1 := R1.below hb
          replace R3 := R3.below hb
          clear hb hY ht D2
          refine hK _ _ ⟨(L5.on D3).c0, (L5.on D3).c1, (L6.on D3).c0, (L6.on D3).c1⟩ ?_
          clear hK K
          refine plist #[true, true, true, true, true, false, false, false] (by kernel_rfl) ?_
          refine pone 5 (by kernel_rfl) rfl fun K hK => ?_
          go_simp
          obtain ⟨t5, ht⟩ : ∃ b, Y3.heap.size = b := ⟨_, rfl⟩
          obtain ⟨Y4, hY⟩ : ∃ Z, Y3.alloc (.cells #[.slice none 0 0, .slice none 0 0] 35) = Z := ⟨_, rfl⟩
          rewrite [hY, ht]
          have hb : Below Y3.heap.size Y3 Y4 := by rw [← hY]; exact below_alloc _
          have A5 : RB t5 #[.slice none 0 0, .slice none 0 0] Y4 := by rw [← hY, ← ht]; exact RB.new _ _
          have HT5 : X5.heap.size ≤ t5 := by rw [← ht]; exact D3.size
          have NE15 : (∀ a, q7 = some a → 0 < n7 → a.block ≠ t5) ∧ ∀ a, r7 = some a → 0 < m7 → a.block ≠ t5 := by rw [← ht]; exact R1.ne
          have NE35 : (∀ a, q8 = some a → 0 < n8 → a.block ≠ t5) ∧ ∀ a, r8 = some a → 0 < m8 → a.block ≠ t5 := by rw [← ht]; exact R3.ne
          have NT : t4 ≠ t5 := by have h1 := A4.lt; omega
          have D4 := D3.trans (hb.mono D3.size)
          replace R1 := R1.below hb
          replace R3 := R3.below hb
          replace A4 := A4.on hb
          clear hb hY ht D3
          refine hK _ _ ⟨(L5.on D4).c0, (L5.on D4).c1, (L6.on D4).c0, (L6.on D4).c1⟩ ?_
          clear hK K
          refine plist #[true, true, true, true, true, true, false, false] (by kernel_rfl) ?_
          refine pone 6 (by kernel_rfl) rfl fun K hK => ?_
          have kf0 := A4.frozen 0
          have kf1 := A4.frozen 1
          have z0 := A4.box 0 _ rfl
          have z1 := A4.box 1 _ rfl
          obtain ⟨Y5, hY, A4', hk, hB⟩ := A4.put (.slice q7 n7 c7) (.slice r7 m7 d7)
          go_simp
          (try rewrite [hY])
          replace R1 := R1.off A4 NE14 (hk _ (by simp))
          replace R3 := R3.off A4 NE34 (hk _ (by simp))
          replace A5 := A5.away (hk (fun b => b ≠ t4) (by simp)) (by omega)
          have D5 := D4.trans (hB _ HT4)
          clear hY hk hB kf0 kf1 z0 z1 A4 NE14 NE34 D4
          have A4 := A4'
          clear A4'
          refine hK _ _ ⟨(L5.on D5).c0, (L5.on D5).c1, (L6.on D5).c0, (L6.on D5).c1⟩ ?_
          clear hK K
          refine plist #[true, true, true, true, true, true, true, false] (by kernel_rfl) ?_
          refine pone 7 (by kernel_rfl) rfl fun K hK => ?_
          have kf0 := A5.frozen 0
          have kf1 := A5.frozen 1
          have z0 := A5.box 0 _ rfl
          have z1 := A5.box 1 _ rfl
          obtain ⟨Y6, hY, A5', hk, hB⟩ := A5.put (.slice q8 n8 c8) (.slice r8 m8 d8)
          go_simp
          (try rewrite [hY])
          replace R1 := R1.off A5 NE15 (hk _ (by simp))
          replace R3 := R3.off A5 NE35 (hk _ (by simp))
          replace A4 := A4.away (hk (fun b => b ≠ t5) (by simp)) (by omega)
          have D6 := D5.trans (hB _ HT5)
          clear hY hk hB kf0 kf1 z0 z1 A5 NE15 NE35 D5
          have A5 := A5'
          clear A5'
          refine hK _ _ ⟨(L5.on D6).c0, (L5.on D6).c1, (L6.on D6).c0, (L6.on D6).c1⟩ ?_
          clear hK K
          refine plist #[true, true, true, true, true, true, true, true] (by kernel_rfl) ?_
          refine pdone (by kernel_rfl) ?_ _
          go_wp2_with fail
          go_meet
          exact ⟨⟨_, q7, n7, c7, r7, m7, d7, rfl, A4, R1⟩, ⟨_, q8, n8, c8, r8, m8, d8, rfl, A5, R3⟩, D6⟩
        · skip
          go_simp
          obtain ⟨t5, ht⟩ : ∃ b, Y2.heap.size = b := ⟨_, rfl⟩
          obtain ⟨Y7, hY⟩ : ∃ Z, Y2.alloc (.cells #[.slice none 0 0, .slice none 0 0] 35) = Z := ⟨_, rfl⟩
          rewrite [hY, ht]
          have hb : Below Y2.heap.size Y2 Y7 := by rw [← hY]; exact below_alloc _
          have A5 : RB t5 #[.slice none 0 0, .slice none 0 0] Y7 := by rw [← hY, ← ht]; exact RB.new _ _
          have HT5 : X5.heap.size ≤ t5 := by rw [← ht]; exact D2.size
          have NE15 : (∀ a, q7 = some a → 0 < n7 → a.block ≠ t5) ∧ ∀ a, r7 = some a → 0 < m7 → a.block ≠ t5 := by rw [← ht]; exact R1.ne
          have NE35 : (∀ a, q8 = some a → 0 < n8 → a.block ≠ t5) ∧ ∀ a, r8 = some a → 0 < m8 → a.block ≠ t5 := by rw [← ht]; exact R3.ne
          have D7 := D2.trans (hb.mono D2.size)
          replace R1 := R1.below hb
          replace R3 := R3.below hb
          clear hb hY ht D2
          refine hK _ _ ⟨(L5.on D7).c0, (L5.on D7).c1, (L6.on D7).c0, (L6.on D7).c1⟩ ?_
          clear hK K
          refine plist #[true, true, true, true, false, true, false, false] (by kernel_rfl) ?_
          refine pone 4 (by kernel_rfl) rfl fun K hK => ?_
          go_simp
          obtain ⟨t4, ht⟩ : ∃ b, Y7.heap.size = b := ⟨_, rfl⟩
          obtain ⟨Y8, hY⟩ : ∃ Z, Y7.alloc (.cells #[.slice none 0 0, .slice none 0 0] 35) = Z := ⟨_, rfl⟩
          rewrite [hY, ht]
          have hb : Below Y7.heap.size Y7 Y8 := by rw [← hY]; exact below_alloc _
          have A4 : RB t4 #[.slice none 0 0, .slice none 0 0] Y8 := by rw [← hY, ← ht]; exact RB.new _ _
          have HT4 : X5.heap.size ≤ t4 := by rw [← ht]; exact D7.size
          have NE14 : (∀ a, q7 = some a → 0 < n7 → a.block ≠ t4) ∧ ∀ a, r7 = some a → 0 < m7 → a.block ≠ t4 := by rw [← ht]; exact R1.ne
          have NE34 : (∀ a, q8 = some a → 0 < n8 → a.block ≠ t4) ∧ ∀ a, r8 = some a → 0 < m8 → a.block ≠ t4 := by rw [← ht]; exact R3.ne
          have NT : t5 ≠ t4 := by have h1 := A5.lt; omega
          have D8 := D7.trans (hb.mono D7.size)
          replace R1 := R1.below hb
          replace R3 := R3.below hb
          replace A5 := A5.on hb
          clear hb hY ht D7
          refine hK _ _ ⟨(L5.on D8).c0, (L5.on D8).c1, (L6.on D8).c0, (L6.on D8).c1⟩ ?_
          clear hK K
          refine plist #[true, true, true, true, true, true, false, false] (by kernel_rfl) ?_
          refine pone 6 (by kernel_rfl) rfl fun K hK => ?_
          have kf0 := A4.frozen 0
          have kf1 := A4.frozen 1
          have z0 := A4.box 0 _ rfl
          have z1 := A4.box 1 _ rfl
          obtain ⟨Y9, hY, A4', hk, hB⟩ := A4.put (.slice q7 n7 c7) (.slice r7 m7 d7)
          go_simp
          (try rewrite [hY])
          replace R1 := R1.off A4 NE14 (hk _ (by simp))
          replace R3 := R3.off A4 NE34 (hk _ (by simp))
          replace A5 := A5.away (hk (fun b => b ≠ t4) (by simp)) (by omega)
          have D9 := D8.trans (hB _ HT4)
          clear hY hk hB kf0 kf1 z0 z1 A4 NE14 NE34 D8
          have A4 := A4'
          clear A4'
          refine hK _ _ ⟨(L5.on D9).c0, (L5.on D9).c1, (L6.on D9).c0, (L6.on D9).c1⟩ ?_
          clear hK K
          refine plist #[true, true, true, true, true, true, true, false] (by kernel_rfl) ?_
          refine pone 7 (by kernel_rfl) rfl fun K hK => ?_
          have kf0 := A5.frozen 0
          have kf1 := A5.frozen 1
          have z0 := A5.box 0 _ rfl
          have z1 := A5.box 1 _ rfl
          obtain ⟨Y10, hY, A5', hk, hB⟩ := A5.put (.slice q8 n8 c8) (.slice r8 m8 d8)
          go_simp
          (try rewrite [hY])
          replace R1 := R1.off A5 NE15 (hk _ (by simp))
          replace R3 := R3.off A5 NE35 (hk _ (by simp))
          replace A4 := A4.away (hk (fun b => b ≠ t5) (by simp)) (by omega)
          have D10 := D9.trans (hB _ HT5)
          clear hY hk hB kf0 kf1 z0 z1 A5 NE15 NE35 D9
          have A5 := A5'
          clear A5'
          refine hK _ _ ⟨(L5.on D10).c0, (L5.on D10).c1, (L6.on D10).c0, (L6.on D10).c1⟩ ?_
          clear hK K
          refine plist #[true, true, true, true, true, true, true, true] (by kernel_rfl) ?_
          refine pdone (by kernel_rfl) ?_ _
          go_wp2_with fail
          go_meet
          exact ⟨⟨_, q7, n7, c7, r7, m7, d7, rfl, A4, R1⟩, ⟨_, q8, n8, c8, r8, m8, d8, rfl, A5, R3⟩, D10⟩
      · skip
        go_simp
        obtain ⟨t4, ht⟩ : ∃ b, Y1.heap.size = b := ⟨_, rfl⟩
        obtain ⟨Y11, hY⟩ : ∃ Z, Y1.alloc (.cells #[.slice none 0 0, .slice none 0 0] 35) = Z := ⟨_, rfl⟩
        rewrite [hY, ht]
        have hb : Below Y1.heap.size Y1 Y11 := by rw [← hY]; exact below_alloc _
        have A4 : RB t4 #[.slice none 0 0, .slice none 0 0] Y11 := by rw [← hY, ← ht]; exact RB.new _ _
        have HT4 : X5.heap.size ≤ t4 := by rw [← ht]; exact D1.size
        have NE14 : (∀ a, q7 = some a → 0 < n7 → a.block ≠ t4) ∧ ∀ a, r7 = some a → 0 < m7 → a.block ≠ t4 := by rw [← ht]; exact R1.ne
        have D11 := D1.trans (hb.mono D1.size)
        replace R1 := R1.below hb
        clear hb hY ht D1
        refine hK _ _ ⟨(L5.on D11).c0, (L5.on D11).c1, (L6.on D11).c0, (L6.on D11).c1⟩ ?_
        clear hK K
        refine plist #[true, true, true, false, true, false, false, false] (by kernel_rfl) ?_
        refine ptwoQ 3 5 (by kernel_rfl) rfl rfl (fun K hK => ?_) (fun K hK => ?_)
        · skip
          have con := HRC.out Y11 _ o (L6.on D11).2 fo
          go_simp
          refine con.mono ?_
          rintro e Y12 ⟨q8, n8, c8, r8, m8, d8, rfl, R3, k3, k3', hb⟩
          have NE34 : (∀ a, q8 = some a → 0 < n8 → a.block ≠ t4) ∧ ∀ a, r8 = some a → 0 < m8 → a.block ≠ t4 := ⟨fun a h _ => by have h1 := k3 a h; have h2 := A4.lt; omega, fun a h _ => by have h1 := k3' a h; have h2 := A4.lt; omega⟩
          have D12 := D11.trans (hb.mono D11.size)
          replace R1 := R1.below hb
          replace A4 := A4.on hb
          clear con hb k3 k3' D11
          refine hK _ _ ⟨(L5.on D12).c0, (L5.on D12).c1, (L6.on D12).c0, (L6.on D12).c1⟩ ?_
          clear hK K
          refine plist #[true, true, true, true, true, false, false, false] (by kernel_rfl) ?_
          refine pone 5 (by kernel_rfl) rfl fun K hK => ?_
          go_simp
          obtain ⟨t5, ht⟩ : ∃ b, Y12.heap.size = b := ⟨_, rfl⟩
          obtain ⟨Y13, hY⟩ : ∃ Z, Y12.alloc (.cells #[.slice none 0 0, .slice none 0 0] 35) = Z := ⟨_, rfl⟩
          rewrite [hY, ht]
          have hb : Below Y12.heap.size Y12 Y13 := by rw [← hY]; exact below_alloc _
          have A5 : RB t5 #[.slice none 0 0, .slice none 0 0] Y13 := by rw [← hY, ← ht]; exact RB.new _ _
          have HT5 : X5.heap.size ≤ t5 := by rw [← ht]; exact D12.size
          have NE15 : (∀ a, q7 = some a → 0 < n7 → a.block ≠ t5) ∧ ∀ a, r7 = some a → 0 < m7 → a.block ≠ t5 := by rw [← ht]; exact R1.ne
          have NE35 : (∀ a, q8 = some a → 0 < n8 → a.block ≠ t5) ∧ ∀ a, r8 = some a → 0 < m8 → a.block ≠ t5 := by rw [← ht]; exact R3.ne
          have NT : t4 ≠ t5 := by have h1 := A4.lt; omega
          have D13 := D12.trans (hb.mono D12.size)
          replace R1 := R1.below hb
          replace R3 := R3.below hb
          replace A4 := A4.on hb
          clear hb hY ht D12
          refine hK _ _ ⟨(L5.on D13).c0, (L5.on D13).c1, (L6.on D13).c0, (L6.on D13).c1⟩ ?_
          clear hK K
          refine plist #[true, true, true, true, true, true, false, false] (by kernel_rfl) ?_
          refine pone 6 (by kernel_rfl) rfl fun K hK => ?_
          have kf0 := A4.frozen 0
          have kf1 := A4.frozen 1
          have z0 := A4.box 0 _ rfl
          have z1 := A4.box 1 _ rfl
          obtain ⟨Y14, hY, A4', hk, hB⟩ := A4.put (.slice q7 n7 c7) (.slice r7 m7 d7)
          go_simp
          (try rewrite [hY])
          replace R1 := R1.off A4 NE14 (hk _ (by simp))
          replace R3 := R3.off A4 NE34 (hk _ (by simp))
          replace A5 := A5.away (hk (fun b => b ≠ t4) (by simp)) (by omega)
          have D14 := D13.trans (hB _ HT4)
          clear hY hk hB kf0 kf1 z0 z1 A4 NE14 NE34 D13
          have A4 := A4'
          clear A4'
          refine hK _ _ ⟨(L5.on D14).c0, (L5.on D14).c1, (L6.on D14).c0, (L6.on D14).c1⟩ ?_
          clear hK K
          refine plist #[true, true, true, true, true, true, true, false] (by kernel_rfl) ?_
          refine pone 7 (by kernel_rfl) rfl fun K hK => ?_
          have kf0 := A5.frozen 0
          have kf1 := A5.frozen 1
          have z0 := A5.box 0 _ rfl
          have z1 := A5.box 1 _ rfl
          obtain ⟨Y15, hY, A5', hk, hB⟩ := A5.put (.slice q8 n8 c8) (.slice r8 m8 d8)
          go_simp
          (try rewrite [hY])
          replace R1 := R1.off A5 NE15 (hk _ (by simp))
          replace R3 := R3.off A5 NE35 (hk _ (by simp))
          replace A4 := A4.away (hk (fun b => b ≠ t5) (by simp)) (by omega)
          have D15 := D14.trans (hB _ HT5)
          clear hY hk hB kf0 kf1 z0 z1 A5 NE15 NE35 D14
          have A5 := A5'
          clear A5'
          refine hK _ _ ⟨(L5.on D15).c0, (L5.on D15).c1, (L6.on D15).c0, (L6.on D15).c1⟩ ?_
          clear hK K
          refine plist #[true, true, true, true, true, true, true, true] (by kernel_rfl) ?_
          refine pdone (by kernel_rfl) ?_ _
          go_wp2_with fail
          go_meet
          exact ⟨⟨_, q7, n7, c7, r7, m7, d7, rfl, A4, R1⟩, ⟨_, q8, n8, c8, r8, m8, d8, rfl, A5, R3⟩, D15⟩
        · skip
          go_simp
          obtain ⟨t5, ht⟩ : ∃ b, Y11.heap.size = b := ⟨_, rfl⟩
          obtain ⟨Y16, hY⟩ : ∃ Z, Y11.alloc (.cells #[.slice none 0 0, .slice none 0 0] 35) = Z := ⟨_, rfl⟩
          rewrite [hY, ht]
          have hb : Below Y11.heap.size Y11 Y16 := by rw [← hY]; exact below_alloc _
          have A5 : RB t5 #[.slice none 0 0, .slice none 0 0] Y16 := by rw [← hY, ← ht]; exact RB.new _ _
          have HT5 : X5.heap.size ≤ t5 := by rw [← ht]; exact D11.size
          have NE15 : (∀ a, q7 = some a → 0 < n7 → a.block ≠ t5) ∧ ∀ a, r7 = some a → 0 < m7 → a.block ≠ t5 := by rw [← ht]; exact R1.ne
          have NT : t4 ≠ t5 := by have h1 := A4.lt; omega
          have D16 := D11.trans (hb.mono D11.size)
          replace R1 := R1.below hb
          replace A4 := A4.on hb
          clear hb hY ht D11
          refine hK _ _ ⟨(L5.on D16).c0, (L5.on D16).c1, (L6.on D16).c0, (L6.on D16).c1⟩ ?_
          clear hK K
          refine plist #[true, true, true, false, true, true, false, false] (by kernel_rfl) ?_
          refine pone 3 (by kernel_rfl) rfl fun K hK => ?_
          have con := HRC.out Y16 _ o (L6.on D16).2 fo
          go_simp
          refine con.mono ?_
          rintro e Y17 ⟨q8, n8, c8, r8, m8, d8, rfl, R3, k3, k3', hb⟩
          have NE34 : (∀ a, q8 = some a → 0 < n8 → a.block ≠ t4) ∧ ∀ a, r8 = some a → 0 < m8 → a.block ≠ t4 := ⟨fun a h _ => by have h1 := k3 a h; have h2 := A4.lt; omega, fun a h _ => by have h1 := k3' a h; have h2 := A4.lt; omega⟩
          have NE35 : (∀ a, q8 = some a → 0 < n8 → a.block ≠ t5) ∧ ∀ a, r8 = some a → 0 < m8 → a.block ≠ t5 := ⟨fun a h _ => by have h1 := k3 a h; have h2 := A5.lt; omega, fun a h _ => by have h1 := k3' a h; have h2 := A5.lt; omega⟩
          have D17 := D16.trans (hb.mono D16.size)
          replace R1 := R1.below hb
          replace A4 := A4.on hb
          replace A5 := A5.on hb
          clear con hb k3 k3' D16
          refine hK _ _ ⟨(L5.on D17).c0, (L5.on D17).c1, (L6.on D17).c0, (L6.on D17).c1⟩ ?_
          clear hK K
          refine plist #[true, true, true, true, true, true, false, false] (by kernel_rfl) ?_
          refine pone 6 (by kernel_rfl) rfl fun K hK => ?_
          have kf0 := A4.frozen 0
          have kf1 := A4.frozen 1
          have z0 := A4.box 0 _ rfl
          have z1 := A4.box 1 _ rfl
          obtain ⟨Y18, hY, A4', hk, hB⟩ := A4.put (.slice q7 n7 c7) (.slice r7 m7 d7)
          go_simp
          (try rewrite [hY])
          replace R1 := R1.off A4 NE14 (hk _ (by simp))
          replace R3 := R3.off A4 NE34 (hk _ (by simp))
          replace A5 := A5.away (hk (fun b => b ≠ t4) (by simp)) (by omega)
          have D18 := D17.trans (hB _ HT4)
          clear hY hk hB kf0 kf1 z0 z1 A4 NE14 NE34 D17
          have A4 := A4'
          clear A4'
          refine hK _ _ ⟨(L5.on D18).c0, (L5.on D18).c1, (L6.on D18).c0, (L6.on D18).c1⟩ ?_
          clear hK K
          refine plist #[true, true, true, true, true, true, true, false] (by kernel_rfl) ?_
          refine pone 7 (by kernel_rfl) rfl fun K hK => ?_
          have kf0 := A5.frozen 0
          have kf1 := A5.frozen 1
          have z0 := A5.box 0 _ rfl
          have z1 := A5.box 1 _ rfl
          obtain ⟨Y19, hY, A5', hk, hB⟩ := A5.put (.slice q8 n8 c8) (.slice r8 m8 d8)
          go_simp
          (try rewrite [hY])
          replace R1 := R1.off A5 NE15 (hk _ (by simp))
          replace R3 := R3.off A5 NE35 (hk _ (by simp))
          replace A4 := A4.away (hk (fun b => b ≠ t5) (by simp)) (by omega)
          have D19 := D18.trans (hB _ HT5)
          clear hY hk hB kf0 kf1 z0 z1 A5 NE15 NE35 D18
          have A5 := A5'
          clear A5'
          refine hK _ _ ⟨(L5.on D19).c0, (L5.on D19).c1, (L6.on D19).c0, (L6.on D19).c1⟩ ?_
          clear hK K
          refine plist #[true, true, true, true, true, true, true, true] (by kernel_rfl) ?_
          refine pdone (by kernel_rfl) ?_ _
          go_wp2_with fail
          go_meet
          exact ⟨⟨_, q7, n7, c7, r7, m7, d7, rfl, A4, R1⟩, ⟨_, q8, n8, c8, r8, m8, d8, rfl, A5, R3⟩, D19⟩
      · skip
        go_simp
        obtain ⟨t5, ht⟩ : ∃ b, Y1.heap.size = b := ⟨_, rfl⟩
        obtain ⟨Y20, hY⟩ : ∃ Z, Y1.alloc (.cells #[.slice none 0 0, .slice none 0 0] 35) = Z := ⟨_, rfl⟩
        rewrite [hY, ht]
        have hb : Below Y1.heap.size Y1 Y20 := by rw [← hY]; exact below_alloc _
        have A5 : RB t5 #[.slice none 0 0, .slice none 0 0] Y20 := by rw [← hY, ← ht]; exact RB.new _ _
        have HT5 : X5.heap.size ≤ t5 := by rw [← ht]; exact D1.size
        have NE15 : (∀ a, q7 = some a → 0 < n7 → a.block ≠ t5) ∧ ∀ a, r7 = some a → 0 < m7 → a.block ≠ t5 := by rw [← ht]; exact R1.ne
        have D20 := D1.trans (hb.mono D1.size)
        replace R1 := R1.below hb
        clear hb hY ht D1
        refine hK _ _ ⟨(L5.on D20).c0, (L5.on D20).c1, (L6.on D20).c0, (L6.on D20).c1⟩ ?_
        clear hK K
        refine plist #[true, true, true, false, false, true, false, false] (by kernel_rfl) ?_
        refine ptwoQ 3 4 (by kernel_rfl) rfl rfl (fun K hK => ?_) (fun K hK => ?_)
        · skip
          have con := HRC.out Y20 _ o (L6.on D20).2 fo
          go_simp
          refine con.mono ?_
          rintro e Y21 ⟨q8, n8, c8, r8, m8, d8, rfl, R3, k3, k3', hb⟩
          have NE35 : (∀ a, q8 = some a → 0 < n8 → a.block ≠ t5) ∧ ∀ a, r8 = some a → 0 < m8 → a.block ≠ t5 := ⟨fun a h _ => by have h1 := k3 a h; have h2 := A5.lt; omega, fun a h _ => by have h1 := k3' a h; have h2 := A5.lt; omega⟩
          have D21 := D20.trans (hb.mono D20.size)
          replace R1 := R1.below hb
          replace A5 := A5.on hb
          clear con hb k3 k3' D20
          refine hK _ _ ⟨(L5.on D21).c0, (L5.on D21).c1, (L6.on D21).c0, (L6.on D21).c1⟩ ?_
          clear hK K
          refine plist #[true, true, true, true, false, true, false, false] (by kernel_rfl) ?_
          refine pone 4 (by kernel_rfl) rfl fun K hK => ?_
          go_simp
          obtain ⟨t4, ht⟩ : ∃ b, Y21.heap.size = b := ⟨_, rfl⟩
          obtain ⟨Y22, hY⟩ : ∃ Z, Y21.alloc (.cells #[.slice none 0 0, .slice none 0 0] 35) = Z := ⟨_, rfl⟩
          rewrite [hY, ht]
          have hb : Below Y21.heap.size Y21 Y22 := by rw [← hY]; exact below_alloc _
          have A4 : RB t4 #[.slice none 0 0, .slice none 0 0] Y22 := by rw [← hY, ← ht]; exact RB.new _ _
          have HT4 : X5.heap.size ≤ t4 := by rw [← ht]; exact D21.size
          have NE14 : (∀ a, q7 = some a → 0 < n7 → a.block ≠ t4) ∧ ∀ a, r7 = some a → 0 < m7 → a.block ≠ t4 := by rw [← ht]; exact R1.ne
          have NE34 : (∀ a, q8 = some a → 0 < n8 → a.block ≠ t4) ∧ ∀ a, r8 = some a → 0 < m8 → a.block ≠ t4 := by rw [← ht]; exact R3.ne
          have NT : t5 ≠ t4 := by have h1 := A5.lt; omega
          have D22 := D21.trans (hb.mono D21.size)
          replace R1 := R1.below hb
          replace R3 := R3.below hb
          replace A5 := A5.on hb
          clear hb hY ht D21
          refine hK _ _ ⟨(L5.on D22).c0, (L5.on D22).c1, (L6.on D22).c0, (L6.on D22).c1⟩ ?_
          clear hK K
          refine plist #[true, true, true, true, true, true, false, false] (by kernel_rfl) ?_
          refine pone 6 (by kernel_rfl) rfl fun K hK => ?_
          have kf0 := A4.frozen 0
          have kf1 := A4.frozen 1
          have z0 := A4.box 0 _ rfl
          have z1 := A4.box 1 _ rfl
          obtain ⟨Y23, hY, A4', hk, hB⟩ := A4.put (.slice q7 n7 c7) (.slice r7 m7 d7)
          go_simp
          (try rewrite [hY])
          replace R1 := R1.off A4 NE14 (hk _ (by simp))
          replace R3 := R3.off A4 NE34 (hk _ (by simp))
          replace A5 := A5.away (hk (fun b => b ≠ t4) (by simp)) (by omega)
          have D23 := D22.trans (hB _ HT4)
          clear hY hk hB kf0 kf1 z0 z1 A4 NE14 NE34 D22
          have A4 := A4'
          clear A4'
          refine hK _ _ ⟨(L5.on D23).c0, (L5.on D23).c1, (L6.on D23).c0, (L6.on D23).c1⟩ ?_
          clear hK K
          refine plist #[true, true, true, true, true, true, true, false] (by kernel_rfl) ?_
          refine pone 7 (by kernel_rfl) rfl fun K hK => ?_
          have kf0 := A5.frozen 0
          have kf1 := A5.frozen 1
          have z0 := A5.box 0 _ rfl
          have z1 := A5.box 1 _ rfl
          obtain ⟨Y24, hY, A5', hk, hB⟩ := A5.put (.slice q8 n8 c8) (.slice r8 m8 d8)
          go_simp
          (try rewrite [hY])
          replace R1 := R1.off A5 NE15 (hk _ (by simp))
          replace R3 := R3.off A5 NE35 (hk _ (by simp))
          replace A4 := A4.away (hk (fun b => b ≠ t5) (by simp)) (by omega)
          have D24 := D23.trans (hB _ HT5)
          clear hY hk hB kf0 kf1 z0 z1 A5 NE15 NE35 D23
          have A5 := A5'
          clear A5'
          refine hK _ _ ⟨(L5.on D24).c0, (L5.on D24).c1, (L6.on D24).c0, (L6.on D24).c1⟩ ?_
          clear hK K
          refine plist #[true, true, true, true, true, true, true, true] (by kernel_rfl) ?_
          refine pdone (by kernel_rfl) ?_ _
          go_wp2_with fail
          go_meet
          exact ⟨⟨_, q7, n7, c7, r7, m7, d7, rfl, A4, R1⟩, ⟨_, q8, n8, c8, r8, m8, d8, rfl, A5, R3⟩, D24⟩
        · skip
          go_simp
          obtain ⟨t4, ht⟩ : ∃ b, Y20.heap.size = b := ⟨_, rfl⟩
          obtain ⟨Y25, hY⟩ : ∃ Z, Y20.alloc (.cells #[.slice none 0 0, .slice none 0 0] 35) = Z := ⟨_, rfl⟩
          rewrite [hY, ht]
          have hb : Below Y20.heap.size Y20 Y25 := by rw [← hY]; exact below_alloc _
          have A4 : RB t4 #[.slice none 0 0, .slice none 0 0] Y25 := by rw [← hY, ← ht]; exact RB.new _ _
          have HT4 : X5.heap.size ≤ t4 := by rw [← ht]; exact D20.size
          have NE14 : (∀ a, q7 = some a → 0 < n7 → a.block ≠ t4) ∧ ∀ a, r7 = some a → 0 < m7 → a.block ≠ t4 := by rw [← ht]; exact R1.ne
          have NT : t5 ≠ t4 := by have h1 := A5.lt; omega
          have D25 := D20.trans (hb.mono D20.size)
          replace R1 := R1.below hb
          replace A5 := A5.on hb
          clear hb hY ht D20
          refine hK _ _ ⟨(L5.on D25).c0, (L5.on D25).c1, (L6.on D25).c0, (L6.on D25).c1⟩ ?_
          clear hK K
          refine plist #[true, true, true, false, true, true, false, false] (by kernel_rfl) ?_
          refine pone 3 (by kernel_rfl) rfl fun K hK => ?_
          have con := HRC.out Y25 _ o (L6.on D25).2 fo
          go_simp
          refine con.mono ?_
          rintro e Y26 ⟨q8, n8, c8, r8, m8, d8, rfl, R3, k3, k3', hb⟩
          have NE35 : (∀ a, q8 = some a → 0 < n8 → a.block ≠ t5) ∧ ∀ a, r8 = some a → 0 < m8 → a.block ≠ t5 := ⟨fun a h _ => by have h1 := k3 a h; have h2 := A5.lt; omega, fun a h _ => by have h1 := k3' a h; have h2 := A5.lt; omega⟩
          have NE34 : (∀ a, q8 = some a → 0 < n8 → a.block ≠ t4) ∧ ∀ a, r8 = some a → 0 < m8 → a.block ≠ t4 := ⟨fun a h _ => by have h1 := k3 a h; have h2 := A4.lt; omega, fun a h _ => by have h1 := k3' a h; have h2 := A4.lt; omega⟩
          have D26 := D25.trans (hb.mono D25.size)
          replace R1 := R1.below hb
          replace A5 := A5.on hb
          replace A4 := A4.on hb
          clear con hb k3 k3' D25
          refine hK _ _ ⟨(L5.on D26).c0, (L5.on D26).c1, (L6.on D26).c0, (L6.on D26).c1⟩ ?_
          clear hK K
          refine plist #[true, true, true, true, true, true, false, false] (by kernel_rfl) ?_
          refine pone 6 (by kernel_rfl) rfl fun K hK => ?_
          have kf0 := A4.frozen 0
          have kf1 := A4.frozen 1
          have z0 := A4.box 0 _ rfl
          have z1 := A4.box 1 _ rfl
          obtain ⟨Y27, hY, A4', hk, hB⟩ := A4.put (.slice q7 n7 c7) (.slice r7 m7 d7)
          go_simp
          (try rewrite [hY])
          replace R1 := R1.off A4 NE14 (hk _ (by simp))
          replace R3 := R3.off A4 NE34 (hk _ (by simp))
          replace A5 := A5.away (hk (fun b => b ≠ t4) (by simp)) (by omega)
          have D27 := D26.trans (hB _ HT4)
          clear hY hk hB kf0 kf1 z0 z1 A4 NE14 NE34 D26
          have A4 := A4'
          clear A4'
          refine hK _ _ ⟨(L5.on D27).c0, (L5.on D27).c1, (L6.on D27).c0, (L6.on D27).c1⟩ ?_
          clear hK K
          refine plist #[true, true, true, true, true, true, true, false] (by kernel_rfl) ?_
          refine pone 7 (by kernel_rfl) rfl fun K hK => ?_
          have kf0 := A5.frozen 0
          have kf1 := A5.frozen 1
          have z0 := A5.box 0 _ rfl
          have z1 := A5.box 1 _ rfl
          obtain ⟨Y28, hY, A5', hk, hB⟩ := A5.put (.slice q8 n8 c8) (.slice r8 m8 d8)
          go_simp
          (try rewrite [hY])
          replace R1 := R1.off A5 NE15 (hk _ (by simp))
          replace R3 := R3.off A5 NE35 (hk _ (by simp))
          replace A4 := A4.away (hk (fun b => b ≠ t5) (by simp)) (by omega)
          have D28 := D27.trans (hB _ HT5)
          clear hY hk hB kf0 kf1 z0 z1 A5 NE15 NE35 D27
          have A5 := A5'
          clear A5'
          refine hK _ _ ⟨(L5.on D28).c0, (L5.on D28).c1, (L6.on D28).c0, (L6.on D28).c1⟩ ?_
          clear hK K
          refine plist #[true, true, true, true, true, true, true, true] (by kernel_rfl) ?_
          refine pdone (by kernel_rfl) ?_ _
          go_wp2_with fail
          go_meet
          exact ⟨⟨_, q7, n7, c7, r7, m7, d7, rfl, A4, R1⟩, ⟨_, q8, n8, c8, r8, m8, d8, rfl, A5, R3⟩, D28⟩
    · skip
      go_simp
      obtain ⟨t4, ht⟩ : ∃ b, Y0.heap.size = b := ⟨_, rfl⟩
      obtain ⟨Y29, hY⟩ : ∃ Z, Y0.alloc (.cells #[.slice none 0 0, .slice none 0 0] 35) = Z := ⟨_, rfl⟩
      rewrite [hY, ht]
      have hb : Below Y0.heap.size Y0 Y29 := by rw [← hY]; exact below_alloc _
      have A4 : RB t4 #[.slice none 0 0, .slice none 0 0] Y29 := by rw [← hY, ← ht]; exact RB.new _ _
      have HT4 : X5.heap.size ≤ t4 := by rw [← ht]; exact D0.size
      have D29 := D0.trans (hb.mono D0.size)
      clear hb hY ht D0
      refine hK _ _ ⟨(L5.on D29).c0, (L5.on D29).c1, (L6.on D29).c0, (L6.on D29).c1⟩ ?_
      clear hK K
      refine plist #[true, false, true, false, true, false, false, false] (by kernel_rfl) ?_
      refine ptwoQ 1 5 (by kernel_rfl) rfl rfl (fun K hK => ?_) (fun K hK => ?_)
      · skip
        have con := HRC.out Y29 _ l (L5.on D29).2 fl
        go_simp
        refine con.mono ?_
        rintro e Y30 ⟨q7, n7, c7, r7, m7, d7, rfl, R1, k1, k1', hb⟩
        have NE14 : (∀ a, q7 = some a → 0 < n7 → a.block ≠ t4) ∧ ∀ a, r7 = some a → 0 < m7 → a.block ≠ t4 := ⟨fun a h _ => by have h1 := k1 a h; have h2 := A4.lt; omega, fun a h _ => by have h1 := k1' a h; have h2 := A4.lt; omega⟩
        have D30 := D29.trans (hb.mono D29.size)
        replace A4 := A4.on hb
        clear con hb k1 k1' D29
        refine hK _ _ ⟨(L5.on D30).c0, (L5.on D30).c1, (L6.on D30).c0, (L6.on D30).c1⟩ ?_
        clear hK K
        refine plist #[true, true, true, false, true, false, false, false] (by kernel_rfl) ?_
        refine ptwoQ 3 5 (by kernel_rfl) rfl rfl (fun K hK => ?_) (fun K hK => ?_)
        · skip
          have con := HRC.out Y30 _ o (L6.on D30).2 fo
          go_simp
          refine con.mono ?_
          rintro e Y31 ⟨q8, n8, c8, r8, m8, d8, rfl, R3, k3, k3', hb⟩
          have NE34 : (∀ a, q8 = some a → 0 < n8 → a.block ≠ t4) ∧ ∀ a, r8 = some a → 0 < m8 → a.block ≠ t4 := ⟨fun a h _ => by have h1 := k3 a h; have h2 := A4.lt; omega, fun a h _ => by have h1 := k3' a h; have h2 := A4.lt; omega⟩
          have D31 := D30.trans (hb.mono D30.size)
          replace R1 := R1.below hb
          replace A4 := A4.on hb
          clear con hb k3 k3' D30
          refine hK _ _ ⟨(L5.on D31).c0, (L5.on D31).c1, (L6.on D31).c0, (L6.on D31).c1⟩ ?_
          clear hK K
          refine plist #[true, true, true, true, true, false, false, false] (by kernel_rfl) ?_
          refine pone 5 (by kernel_rfl) rfl fun K hK => ?_
          go_simp
          obtain ⟨t5, ht⟩ : ∃ b, Y31.heap.size = b := ⟨_, rfl⟩
          obtain ⟨Y32, hY⟩ : ∃ Z, Y31.alloc (.cells #[.slice none 0 0, .slice none 0 0] 35) = Z := ⟨_, rfl⟩
          rewrite [hY, ht]
          have hb : Below Y31.heap.size Y31 Y32 := by rw [← hY]; exact below_alloc _
          have A5 : RB t5 #[.slice none 0 0, .slice none 0 0] Y32 := by rw [← hY, ← ht]; exact RB.new _ _
          have HT5 : X5.heap.size ≤ t5 := by rw [← ht]; exact D31.size
          have NE15 : (∀ a, q7 = some a → 0 < n7 → a.block ≠ t5) ∧ ∀ a, r7 = some a → 0 < m7 → a.block ≠ t5 := by rw [← ht]; exact R1.ne
          have NE35 : (∀ a, q8 = some a → 0 < n8 → a.block ≠ t5) ∧ ∀ a, r8 = some a → 0 < m8 → a.block ≠ t5 := by rw [← ht]; exact R3.ne
          have NT : t4 ≠ t5 := by have h1 := A4.lt; omega
          have D32 := D31.trans (hb.mono D31.size)
          replace R1 := R1.below hb
          replace R3 := R3.below hb
          replace A4 := A4.on hb
          clear hb hY ht D31
          refine hK _ _ ⟨(L5.on D32).c0, (L5.on D32).c1, (L6.on D32).c0, (L6.on D32).c1⟩ ?_
          clear hK K
          refine plist #[true, true, true, true, true, true, false, false] (by kernel_rfl) ?_
          refine pone 6 (by kernel_rfl) rfl fun K hK => ?_
          have kf0 := A4.frozen 0
          have kf1 := A4.frozen 1
          have z0 := A4.box 0 _ rfl
          have z1 := A4.box 1 _ rfl
          obtain ⟨Y33, hY, A4', hk, hB⟩ := A4.put (.slice q7 n7 c7) (.slice r7 m7 d7)
          go_simp
          (try rewrite [hY])
          replace R1 := R1.off A4 NE14 (hk _ (by simp))
          replace R3 := R3.off A4 NE34 (hk _ (by simp))
          replace A5 := A5.away (hk (fun b => b ≠ t4) (by simp)) (by omega)
          have D33 := D32.trans (hB _ HT4)
          clear hY hk hB kf0 kf1 z0 z1 A4 NE14 NE34 D32
          have A4 := A4'
          clear A4'
          refine hK _ _ ⟨(L5.on D33).c0, (L5.on D33).c1, (L6.on D33).c0, (L6.on D33).c1⟩ ?_
          clear hK K
          refine plist #[true, true, true, true, true, true, true, false] (by kernel_rfl) ?_
          refine pone 7 (by kernel_rfl) rfl fun K hK => ?_
          have kf0 := A5.frozen 0
          have kf1 := A5.frozen 1
          have z0 := A5.box 0 _ rfl
          have z1 := A5.box 1 _ rfl
          obtain ⟨Y34, hY, A5', hk, hB⟩ := A5.put (.slice q8 n8 c8) (.slice r8 m8 d8)
          go_simp
          (try rewrite [hY])
          replace R1 := R1.off A5 NE15 (hk _ (by simp))
          replace R3 := R3.off A5 NE35 (hk _ (by simp))
          replace A4 := A4.away (hk (fun b => b ≠ t5) (by simp)) (by omega)
          have D34 := D33.trans (hB _ HT5)
          clear hY hk hB kf0 kf1 z0 z1 A5 NE15 NE35 D33
          have A5 := A5'
          clear A5'
          refine hK _ _ ⟨(L5.on D34).c0, (L5.on D34).c1, (L6.on D34).c0, (L6.on D34).c1⟩ ?_
          clear hK K
          refine plist #[true, true, true, true, true, true, true, true] (by kernel_rfl) ?_
          refine pdone (by kernel_rfl) ?_ _
          go_wp2_with fail
          go_meet
          exact ⟨⟨_, q7, n7, c7, r7, m7, d7, rfl, A4, R1⟩, ⟨_, q8, n8, c8, r8, m8, d8, rfl, A5, R3⟩, D34⟩
        · skip
          go_simp
          obtain ⟨t5, ht⟩ : ∃ b, Y30.heap.size = b := ⟨_, rfl⟩
          obtain ⟨Y35, hY⟩ : ∃ Z, Y30.alloc (.cells #[.slice none 0 0, .slice none 0 0] 35) = Z := ⟨_, rfl⟩
          rewrite [hY, ht]
          have hb : Below Y30.heap.size Y30 Y35 := by rw [← hY]; exact below_alloc _
          have A5 : RB t5 #[.slice none 0 0, .slice none 0 0] Y35 := by rw [← hY, ← ht]; exact RB.new _ _
          have HT5 : X5.heap.size ≤ t5 := by rw [← ht]; exact D30.size
          have NE15 : (∀ a, q7 = some a → 0 < n7 → a.block ≠ t5) ∧ ∀ a, r7 = some a → 0 < m7 → a.block ≠ t5 := by rw [← ht]; exact R1.ne
          have NT : t4 ≠ t5 := by have h1 := A4.lt; omega
          have D35 := D30.trans (hb.mono D30.size)
          replace R1 := R1.below hb
          replace A4 := A4.on hb
          clear hb hY ht D30
          refine hK _ _ ⟨(L5.on D35).c0, (L5.on D35).c1, (L6.on D35).c0, (L6.on D35).c1⟩ ?_
          clear hK K
          refine plist #[true, true, true, false, true, true, false, false] (by kernel_rfl) ?_
          refine pone 3 (by kernel_rfl) rfl fun K hK => ?_
          have con := HRC.out Y35 _ o (L6.on D35).2 fo
          go_simp
          refine con.mono ?_
          rintro e Y36 ⟨q8, n8, c8, r8, m8, d8, rfl, R3, k3, k3', hb⟩
          have NE34 : (∀ a, q8 = some a → 0 < n8 → a.block ≠ t4) ∧ ∀ a, r8 = some a → 0 < m8 → a.block ≠ t4 := ⟨fun a h _ => by have h1 := k3 a h; have h2 := A4.lt; omega, fun a h _ => by have h1 := k3' a h; have h2 := A4.lt; omega⟩
          have NE35 : (∀ a, q8 = some a → 0 < n8 → a.block ≠ t5) ∧ ∀ a, r8 = some a → 0 < m8 → a.block ≠ t5 := ⟨fun a h _ => by have h1 := k3 a h; have h2 := A5.lt; omega, fun a h _ => by have h1 := k3' a h; have h2 := A5.lt; omega⟩
          have D36 := D35.trans (hb.mono D35.size)
          replace R1 := R1.below hb
          replace A4 := A4.on hb
          replace A5 := A5.on hb
          clear con hb k3 k3' D35
          refine hK _ _ ⟨(L5.on D36).c0, (L5.on D36).c1, (L6.on D36).c0, (L6.on D36).c1⟩ ?_
          clear hK K
          refine plist #[true, true, true, true, true, true, false, false] (by kernel_rfl) ?_
          refine pone 6 (by kernel_rfl) rfl fun K hK => ?_
          have kf0 := A4.frozen 0
          have kf1 := A4.frozen 1
          have z0 := A4.box 0 _ rfl
          have z1 := A4.box 1 _ rfl
          obtain ⟨Y37, hY, A4', hk, hB⟩ := A4.put (.slice q7 n7 c7) (.slice r7 m7 d7)
          go_simp
          (try rewrite [hY])
          replace R1 := R1.off A4 NE14 (hk _ (by simp))
          replace R3 := R3.off A4 NE34 (hk _ (by simp))
          replace A5 := A5.away (hk (fun b => b ≠ t4) (by simp)) (by omega)
          have D37 := D36.trans (hB _ HT4)
          clear hY hk hB kf0 kf1 z0 z1 A4 NE14 NE34 D36
          have A4 := A4'
          clear A4'
          refine hK _ _ ⟨(L5.on D37).c0, (L5.on D37).c1, (L6.on D37).c0, (L6.on D37).c1⟩ ?_
          clear hK K
          refine plist #[true, true, true, true, true, true, true, false] (by kernel_rfl) ?_
          refine pone 7 (by kernel_rfl) rfl fun K hK => ?_
          have kf0 := A5.frozen 0
          have kf1 := A5.frozen 1
          have z0 := A5.box 0 _ rfl
          have z1 := A5.box 1 _ rfl
          obtain ⟨Y38, hY, A5', hk, hB⟩ := A5.put (.slice q8 n8 c8) (.slice r8 m8 d8)
          go_simp
          (try rewrite [hY])
          replace R1 := R1.off A5 NE15 (hk _ (by simp))
          replace R3 := R3.off A5 NE35 (hk _ (by simp))
          replace A4 := A4.away (hk (fun b => b ≠ t5) (by simp)) (by omega)
          have D38 := D37.trans (hB _ HT5)
          clear hY hk hB kf0 kf1 z0 z1 A5 NE15 NE35 D37
          have A5 := A5'
          clear A5'
          refine hK _ _ ⟨(L5.on D38).c0, (L5.on D38).c1, (L6.on D38).c0, (L6.on D38).c1⟩ ?_
          clear hK K
          refine plist #[true, true, true, true, true, true, true, true] (by kernel_rfl) ?_
          refine pdone (by kernel_rfl) ?_ _
          go_wp2_with fail
          go_meet
          exact ⟨⟨_, q7, n7, c7, r7, m7, d7, rfl, A4, R1⟩, ⟨_, q8, n8, c8, r8, m8, d8, rfl, A5, R3⟩, D38⟩
      · skip
        go_simp
        obtain ⟨t5, ht⟩ : ∃ b, Y29.heap.size = b := ⟨_, rfl⟩
        obtain ⟨Y39, hY⟩ : ∃ Z, Y29.alloc (.cells #[.slice none 0 0, .slice none 0 0] 35) = Z := ⟨_, rfl⟩
        rewrite [hY, ht]
        have hb : Below Y29.heap.size Y29 Y39 := by rw [← hY]; exact below_alloc _
        have A5 : RB t5 #[.slice none 0 0, .slice none 0 0] Y39 := by rw [← hY, ← ht]; exact RB.new _ _
        have HT5 : X5.heap.size ≤ t5 := by rw [← ht]; exact D29.size
        have NT : t4 ≠ t5 := by have h1 := A4.lt; omega
        have D39 := D29.trans (hb.mono D29.size)
        replace A4 := A4.on hb
        clear hb hY ht D29
        refine hK _ _ ⟨(L5.on D39).c0, (L5.on D39).c1, (L6.on D39).c0, (L6.on D39).c1⟩ ?_
        clear hK K
        refine plist #[true, false, true, false, true, true, false, false] (by kernel_rfl) ?_
        refine pone 1 (by kernel_rfl) rfl fun K hK => ?_
        have con := HRC.out Y39 _ l (L5.on D39).2 fl
        go_simp
        refine con.mono ?_
        rintro e Y40 ⟨q7, n7, c7, r7, m7, d7, rfl, R1, k1, k1', hb⟩
        have NE14 : (∀ a, q7 = some a → 0 < n7 → a.block ≠ t4) ∧ ∀ a, r7 = some a → 0 < m7 → a.block ≠ t4 := ⟨fun a h _ => by have h1 := k1 a h; have h2 := A4.lt; omega, fun a h _ => by have h1 := k1' a h; have h2 := A4.lt; omega⟩
        have NE15 : (∀ a, q7 = some a → 0 < n7 → a.block ≠ t5) ∧ ∀ a, r7 = some a → 0 < m7 → a.block ≠ t5 := ⟨fun a h _ => by have h1 := k1 a h; have h2 := A5.lt; omega, fun a h _ => by have h1 := k1' a h; have h2 := A5.lt; omega⟩
        have D40 := D39.trans (hb.mono D39.size)
        replace A4 := A4.on hb
        replace A5 := A5.on hb
        clear con hb k1 k1' D39
        refine hK _ _ ⟨(L5.on D40).c0, (L5.on D40).c1, (L6.on D40).c0, (L6.on D40).c1⟩ ?_
        clear hK K
        refine plist #[true, true, true, false, true, true, false, false] (by kernel_rfl) ?_
        refine pone 3 (by kernel_rfl) rfl fun K hK => ?_
        have con := HRC.out Y40 _ o (L6.on D40).2 fo
        go_simp
        refine con.mono ?_
        rintro e Y41 ⟨q8, n8, c8, r8, m8, d8, rfl, R3, k3, k3', hb⟩
        have NE34 : (∀ a, q8 = some a → 0 < n8 → a.block ≠ t4) ∧ ∀ a, r8 = some a → 0 < m8 → a.block ≠ t4 := ⟨fun a h _ => by have h1 := k3 a h; have h2 := A4.lt; omega, fun a h _ => by have h1 := k3' a h; have h2 := A4.lt; omega⟩
        have NE35 : (∀ a, q8 = some a → 0 < n8 → a.block ≠ t5) ∧ ∀ a, r8 = some a → 0 < m8 → a.block ≠ t5 := ⟨fun a h _ => by have h1 := k3 a h; have h2 := A5.lt; omega, fun a h _ => by have h1 := k3' a h; have h2 := A5.lt; omega⟩
        have D41 := D40.trans (hb.mono D40.size)
        replace R1 := R1.below hb
        replace A4 := A4.on hb
        replace A5 := A5.on hb
        clear con hb k3 k3' D40
        refine hK _ _ ⟨(L5.on D41).c0, (L5.on D41).c1, (L6.on D41).c0, (L6.on D41).c1⟩ ?_
        clear hK K
        refine plist #[true, true, true, true, true, true, false, false] (by kernel_rfl) ?_
        refine pone 6 (by kernel_rfl) rfl fun K hK => ?_
        have kf0 := A4.frozen 0
        have kf1 := A4.frozen 1
        have z0 := A4.box 0 _ rfl
        have z1 := A4.box 1 _ rfl
        obtain ⟨Y42, hY, A4', hk, hB⟩ := A4.put (.slice q7 n7 c7) (.slice r7 m7 d7)
        go_simp
        (try rewrite [hY])
        replace R1 := R1.off A4 NE14 (hk _ (by simp))
        replace R3 := R3.off A4 NE34 (hk _ (by simp))
        replace A5 := A5.away (hk (fun b => b ≠ t4) (by simp)) (by omega)
        have D42 := D41.trans (hB _ HT4)
        clear hY hk hB kf0 kf1 z0 z1 A4 NE14 NE34 D41
        have A4 := A4'
        clear A4'
        refine hK _ _ ⟨(L5.on D42).c0, (L5.on D42).c1, (L6.on D42).c0, (L6.on D42).c1⟩ ?_
        clear hK K
        refine plist #[true, true, true, true, true, true, true, false] (by kernel_rfl) ?_
        refine pone 7 (by kernel_rfl) rfl fun K hK => ?_
        have kf0 := A5.frozen 0
        have kf1 := A5.frozen 1
        have z0 := A5.box 0 _ rfl
        have z1 := A5.box 1 _ rfl
        obtain ⟨Y43, hY, A5', hk, hB⟩ := A5.put (.slice q8 n8 c8) (.slice r8 m8 d8)
        go_simp
        (try rewrite [hY])
        replace R1 := R1.off A5 NE15 (hk _ (by simp))
        replace R3 := R3.off A5 NE35 (hk _ (by simp))
        replace A4 := A4.away (hk (fun b => b ≠ t5) (by simp)) (by omega)
        have D43 := D42.trans (hB _ HT5)
        clear hY hk hB kf0 kf1 z0 z1 A5 NE15 NE35 D42
        have A5 := A5'
        clear A5'
        refine hK _ _ ⟨(L5.on D43).c0, (L5.on D43).c1, (L6.on D43).c0, (L6.on D43).c1⟩ ?_
        clear hK K
        refine plist #[true, true, true, true, true, true, true, true] (by kernel_rfl) ?_
        refine pdone (by kernel_rfl) ?_ _
        go_wp2_with fail
        go_meet
        exact ⟨⟨_, q7, n7, c7, r7, m7, d7, rfl, A4, R1⟩, ⟨_, q8, n8, c8, r8, m8, d8, rfl, A5, R3⟩, D43⟩
    · skip
      go_simp
      obtain ⟨t5, ht⟩ : ∃ b, Y0.heap.size = b := ⟨_, rfl⟩
      obtain ⟨Y44, hY⟩ : ∃ Z, Y0.alloc (.cells #[.slice none 0 0, .slice none 0 0] 35) = Z := ⟨_, rfl⟩
      rewrite [hY, ht]
      have hb : Below Y0.heap.size Y0 Y44 := by rw [← hY]; exact below_alloc _
      have A5 : RB t5 #[.slice none 0 0, .slice none 0 0] Y44 := by rw [← hY, ← ht]; exact RB.new _ _
      have HT5 : X5.heap.size ≤ t5 := by rw [← ht]; exact D0.size
      have D44 := D0.trans (hb.mono D0.size)
      clear hb hY ht D0
      refine hK _ _ ⟨(L5.on D44).c0, (L5.on D44).c1, (L6.on D44).c0, (L6.on D44).c1⟩ ?_
      clear hK K
      refine plist #[true, false, true, false, false, true, false, false] (by kernel_rfl) ?_
      refine ptwoQ 1 4 (by kernel_rfl) rfl rfl (fun K hK => ?_) (fun K hK => ?_)
      · skip
        have con := HRC.out Y44 _ l (L5.on D44).2 fl
        go_simp
        refine con.mono ?_
        rintro e Y45 ⟨q7, n7, c7, r7, m7, d7, rfl, R1, k1, k1', hb⟩
        have NE15 : (∀ a, q7 = some a → 0 < n7 → a.block ≠ t5) ∧ ∀ a, r7 = some a → 0 < m7 → a.block ≠ t5 := ⟨fun a h _ => by have h1 := k1 a h; have h2 := A5.lt; omega, fun a h _ => by have h1 := k1' a h; have h2 := A5.lt; omega⟩
        have D45 := D44.trans (hb.mono D44.size)
        replace A5 := A5.on hb
        clear con hb k1 k1' D44
        refine hK _ _ ⟨(L5.on D45).c0, (L5.on D45).c1, (L6.on D45).c0, (L6.on D45).c1⟩ ?_
        clear hK K
        refine plist #[true, true, true, false, false, true, false, false] (by kernel_rfl) ?_
        refine ptwoQ 3 4 (by kernel_rfl) rfl rfl (fun K hK => ?_) (fun K hK => ?_)
        · skip
          have con := HRC.out Y45 _ o (L6.on D45).2 fo
          go_simp
          refine con.mono ?_
          rintro e Y46 ⟨q8, n8, c8, r8, m8, d8, rfl, R3, k3, k3', hb⟩
          have NE35 : (∀ a, q8 = some a → 0 < n8 → a.block ≠ t5) ∧ ∀ a, r8 = some a → 0 < m8 → a.block ≠ t5 := ⟨fun a h _ => by have h1 := k3 a h; have h2 := A5.lt; omega, fun a h _ => by have h1 := k3' a h; have h2 := A5.lt; omega⟩
          have D46 := D45.trans (hb.mono D45.size)
          replace R1 := R1.below hb
          replace A5 := A5.on hb
          clear con hb k3 k3' D45
          refine hK _ _ ⟨(L5.on D46).c0, (L5.on D46).c1, (L6.on D46).c0, (L6.on D46).c1⟩ ?_
          clear hK K
          refine plist #[true, true, true, true, false, true, false, false] (by kernel_rfl) ?_
          refine pone 4 (by kernel_rfl) rfl fun K hK => ?_
          go_simp
          obtain ⟨t4, ht⟩ : ∃ b, Y46.heap.size = b := ⟨_, rfl⟩
          obtain ⟨Y47, hY⟩ : ∃ Z, Y46.alloc (.cells #[.slice none 0 0, .slice none 0 0] 35) = Z := ⟨_, rfl⟩
          rewrite [hY, ht]
          have hb : Below Y46.heap.size Y46 Y47 := by rw [← hY]; exact below_alloc _
          have A4 : RB t4 #[.slice none 0 0, .slice none 0 0] Y47 := by rw [← hY, ← ht]; exact RB.new _ _
          have HT4 : X5.heap.size ≤ t4 := by rw [← ht]; exact D46.size
          have NE14 : (∀ a, q7 = some a → 0 < n7 → a.block ≠ t4) ∧ ∀ a, r7 = some a → 0 < m7 → a.block ≠ t4 := by rw [← ht]; exact R1.ne
          have NE34 : (∀ a, q8 = some a → 0 < n8 → a.block ≠ t4) ∧ ∀ a, r8 = some a → 0 < m8 → a.block ≠ t4 := by rw [← ht]; exact R3.ne
          have NT : t5 ≠ t4 := by have h1 := A5.lt; omega
          have D47 := D46.trans (hb.mono D46.size)
          replace R1 := R1.below hb
          replace R3 := R3.below hb
          replace A5 := A5.on hb
          clear hb hY ht D46
          refine hK _ _ ⟨(L5.on D47).c0, (L5.on D47).c1, (L6.on D47).c0, (L6.on D47).c1⟩ ?_
          clear hK K
          refine plist #[true, true, true, true, true, true, false, false] (by kernel_rfl) ?_
          refine pone 6 (by kernel_rfl) rfl fun K hK => ?_
          have kf0 := A4.frozen 0
          have kf1 := A4.frozen 1
          have z0 := A4.box 0 _ rfl
          have z1 := A4.box 1 _ rfl
          obtain ⟨Y48, hY, A4', hk, hB⟩ := A4.put (.slice q7 n7 c7) (.slice r7 m7 d7)
          go_simp
          (try rewrite [hY])
          replace R1 := R1.off A4 NE14 (hk _ (by simp))
          replace R3 := R3.off A4 NE34 (hk _ (by simp))
          replace A5 := A5.away (hk (fun b => b ≠ t4) (by simp)) (by omega)
          have D48 := D47.trans (hB _ HT4)
          clear hY hk hB kf0 kf1 z0 z1 A4 NE14 NE34 D47
          have A4 := A4'
          clear A4'
          refine hK _ _ ⟨(L5.on D48).c0, (L5.on D48).c1, (L6.on D48).c0, (L6.on D48).c1⟩ ?_
          clear hK K
          refine plist #[true, true, true, true, true, true, true, false] (by kernel_rfl) ?_
          refine pone 7 (by kernel_rfl) rfl fun K hK => ?_
          have kf0 := A5.frozen 0
          have kf1 := A5.frozen 1
          have z0 := A5.box 0 _ rfl
          have z1 := A5.box 1 _ rfl
          obtain ⟨Y49, hY, A5', hk, hB⟩ := A5.put (.slice q8 n8 c8) (.slice r8 m8 d8)
          go_simp
          (try rewrite [hY])
          replace R1 := R1.off A5 NE15 (hk _ (by simp))
          replace R3 := R3.off A5 NE35 (hk _ (by simp))
          replace A4 := A4.away (hk (fun b => b ≠ t5) (by simp)) (by omega)
          have D49 := D48.trans (hB _ HT5)
          clear hY hk hB kf0 kf1 z0 z1 A5 NE15 NE35 D48
          have A5 := A5'
          clear A5'
          refine hK _ _ ⟨(L5.on D49).c0, (L5.on D49).c1, (L6.on D49).c0, (L6.on D49).c1⟩ ?_
          clear hK K
          refine plist #[true, true, true, true, true, true, true, true] (by kernel_rfl) ?_
          refine pdone (by kernel_rfl) ?_ _
          go_wp2_with fail
          go_meet
          exact ⟨⟨_, q7, n7, c7, r7, m7, d7, rfl, A4, R1⟩, ⟨_, q8, n8, c8, r8, m8, d8, rfl, A5, R3⟩, D49⟩
        · skip
          go_simp
          obtain ⟨t4, ht⟩ : ∃ b, Y45.heap.size = b := ⟨_, rfl⟩
          obtain ⟨Y50, hY⟩ : ∃ Z, Y45.alloc (.cells #[.slice none 0 0, .slice none 0 0] 35) = Z := ⟨_, rfl⟩
          rewrite [hY, ht]
          have hb : Below Y45.heap.size Y45 Y50 := by rw [← hY]; exact below_alloc _
          have A4 : RB t4 #[.slice none 0 0, .slice none 0 0] Y50 := by rw [← hY, ← ht]; exact RB.new _ _
          have HT4 : X5.heap.size ≤ t4 := by rw [← ht]; exact D45.size
          have NE14 : (∀ a, q7 = some a → 0 < n7 → a.block ≠ t4) ∧ ∀ a, r7 = some a → 0 < m7 → a.block ≠ t4 := by rw [← ht]; exact R1.ne
          have NT : t5 ≠ t4 := by have h1 := A5.lt; omega
          have D50 := D45.trans (hb.mono D45.size)
          replace R1 := R1.below hb
          replace A5 := A5.on hb
          clear hb hY ht D45
          refine hK _ _ ⟨(L5.on D50).c0, (L5.on D50).c1, (L6.on D50).c0, (L6.on D50).c1⟩ ?_
          clear hK K
          refine plist #[true, true, true, false, true, true, false, false] (by kernel_rfl) ?_
          refine pone 3 (by kernel_rfl) rfl fun K hK => ?_
          have con := HRC.out Y50 _ o (L6.on D50).2 fo
          go_simp
          refine con.mono ?_
          rintro e Y51 ⟨q8, n8, c8, r8, m8, d8, rfl, R3, k3, k3', hb⟩
          have NE35 : (∀ a, q8 = some a → 0 < n8 → a.block ≠ t5) ∧ ∀ a, r8 = some a → 0 < m8 → a.block ≠ t5 := ⟨fun a h _ => by have h1 := k3 a h; have h2 := A5.lt; omega, fun a h _ => by have h1 := k3' a h; have h2 := A5.lt; omega⟩
          have NE34 : (∀ a, q8 = some a → 0 < n8 → a.block ≠ t4) ∧ ∀ a, r8 = some a → 0 < m8 → a.block ≠ t4 := ⟨fun a h _ => by have h1 := k3 a h; have h2 := A4.lt; omega, fun a h _ => by have h1 := k3' a h; have h2 := A4.lt; omega⟩
          have D51 := D50.trans (hb.mono D50.size)
          replace R1 := R1.below hb
          replace A5 := A5.on hb
          replace A4 := A4.on hb
          clear con hb k3 k3' D50
          refine hK _ _ ⟨(L5.on D51).c0, (L5.on D51).c1, (L6.on D51).c0, (L6.on D51).c1⟩ ?_
          clear hK K
          refine plist #[true, true, true, true, true, true, false, false] (by kernel_rfl) ?_
          refine pone 6 (by kernel_rfl) rfl fun K hK => ?_
          have kf0 := A4.frozen 0
          have kf1 := A4.frozen 1
          have z0 := A4.box 0 _ rfl
          have z1 := A4.box 1 _ rfl
          obtain ⟨Y52, hY, A4', hk, hB⟩ := A4.put (.slice q7 n7 c7) (.slice r7 m7 d7)
          go_simp
          (try rewrite [hY])
          replace R1 := R1.off A4 NE14 (hk _ (by simp))
          replace R3 := R3.off A4 NE34 (hk _ (by simp))
          replace A5 := A5.away (hk (fun b => b ≠ t4) (by simp)) (by omega)
          have D52 := D51.trans (hB _ HT4)
          clear hY hk hB kf0 kf1 z0 z1 A4 NE14 NE34 D51
          have A4 := A4'
          clear A4'
          refine hK _ _ ⟨(L5.on D52).c0, (L5.on D52).c1, (L6.on D52).c0, (L6.on D52).c1⟩ ?_
          clear hK K
          refine plist #[true, true, true, true, true, true, true, false] (by kernel_rfl) ?_
          refine pone 7 (by kernel_rfl) rfl fun K hK => ?_
          have kf0 := A5.frozen 0
          have kf1 := A5.frozen 1
          have z0 := A5.box 0 _ rfl
          have z1 := A5.box 1 _ rfl
          obtain ⟨Y53, hY, A5', hk, hB⟩ := A5.put (.slice q8 n8 c8) (.slice r8 m8 d8)
          go_simp
          (try rewrite [hY])
          replace R1 := R1.off A5 NE15 (hk _ (by simp))
          replace R3 := R3.off A5 NE35 (hk _ (by simp))
          replace A4 := A4.away (hk (fun b => b ≠ t5) (by simp)) (by omega)
          have D53 := D52.trans (hB _ HT5)
          clear hY hk hB kf0 kf1 z0 z1 A5 NE15 NE35 D52
          have A5 := A5'
          clear A5'
          refine hK _ _ ⟨(L5.on D53).c0, (L5.on D53).c1, (L6.on D53).c0, (L6.on D53).c1⟩ ?_
          clear hK K
          refine plist #[true, true, true, true, true, true, true, true] (by kernel_rfl) ?_
          refine pdone (by kernel_rfl) ?_ _
          go_wp2_with fail
          go_meet
          exact ⟨⟨_, q7, n7, c7, r7, m7, d7, rfl, A4, R1⟩, ⟨_, q8, n8, c8, r8, m8, d8, rfl, A5, R3⟩, D53⟩
      · skip
        go_simp
        obtain ⟨t4, ht⟩ : ∃ b, Y44.heap.size = b := ⟨_, rfl⟩
        obtain ⟨Y54, hY⟩ : ∃ Z, Y44.alloc (.cells #[.slice none 0 0, .slice none 0 0] 35) = Z := ⟨_, rfl⟩
        rewrite [hY, ht]
        have hb : Below Y44.heap.size Y44 Y54 := by rw [← hY]; exact below_alloc _
        have A4 : RB t4 #[.slice none 0 0, .slice none 0 0] Y54 := by rw [← hY, ← ht]; exact RB.new _ _
        have HT4 : X5.heap.size ≤ t4 := by rw [← ht]; exact D44.size
        have NT : t5 ≠ t4 := by have h1 := A5.lt; omega
        have D54 := D44.trans (hb.mono D44.size)
        replace A5 := A5.on hb
        clear hb hY ht D44
        refine hK _ _ ⟨(L5.on D54).c0, (L5.on D54).c1, (L6.on D54).c0, (L6.on D54).c1⟩ ?_
        clear hK K
        refine plist #[true, false, true, false, true, true, false, false] (by kernel_rfl) ?_
        refine pone 1 (by kernel_rfl) rfl fun K hK => ?_
        have con := HRC.out Y54 _ l (L5.on D54).2 fl
        go_simp
        refine con.mono ?_
        rintro e Y55 ⟨q7, n7, c7, r7, m7, d7, rfl, R1, k1, k1', hb⟩
        have NE15 : (∀ a, q7 = some a → 0 < n7 → a.block ≠ t5) ∧ ∀ a, r7 = some a → 0 < m7 → a.block ≠ t5 := ⟨fun a h _ => by have h1 := k1 a h; have h2 := A5.lt; omega, fun a h _ => by have h1 := k1' a h; have h2 := A5.lt; omega⟩
        have NE14 : (∀ a, q7 = some a → 0 < n7 → a.block ≠ t4) ∧ ∀ a, r7 = some a → 0 < m7 → a.block ≠ t4 := ⟨fun a h _ => by have h1 := k1 a h; have h2 := A4.lt; omega, fun a h _ => by have h1 := k1' a h; have h2 := A4.lt; omega⟩
        have D55 := D54.trans (hb.mono D54.size)
        replace A5 := A5.on hb
        replace A4 := A4.on hb
        clear con hb k1 k1' D54
        refine hK _ _ ⟨(L5.on D55).c0, (L5.on D55).c1, (L6.on D55).c0, (L6.on D55).c1⟩ ?_
        clear hK K
        refine plist #[true, true, true, false, true, true, false, false] (by kernel_rfl) ?_
        refine pone 3 (by kernel_rfl) rfl fun K hK => ?_
        have con := HRC.out Y55 _ o (L6.on D55).2 fo
        go_simp
        refine con.mono ?_
        rintro e Y56 ⟨q8, n8, c8, r8, m8, d8, rfl, R3, k3, k3', hb⟩
        have NE35 : (∀ a, q8 = some a → 0 < n8 → a.block ≠ t5) ∧ ∀ a, r8 = some a → 0 < m8 → a.block ≠ t5 := ⟨fun a h _ => by have h1 := k3 a h; have h2 := A5.lt; omega, fun a h _ => by have h1 := k3' a h; have h2 := A5.lt; omega⟩
        have NE34 : (∀ a, q8 = some a → 0 < n8 → a.block ≠ t4) ∧ ∀ a, r8 = some a → 0 < m8 → a.block ≠ t4 := ⟨fun a h _ => by have h1 := k3 a h; have h2 := A4.lt; omega, fun a h _ => by have h1 := k3' a h; have h2 := A4.lt; omega⟩
        have D56 := D55.trans (hb.mono D55.size)
        replace R1 := R1.below hb
        replace A5 := A5.on hb
        replace A4 := A4.on hb
        clear con hb k3 k3' D55
        refine hK _ _ ⟨(L5.on D56).c0, (L5.on D56).c1, (L6.on D56).c0, (L6.on D56).c1⟩ ?_
        clear hK K
        refine plist #[true, true, true, true, true, true, false, false] (by kernel_rfl) ?_
        refine pone 6 (by kernel_rfl) rfl fun K hK => ?_
        have kf0 := A4.frozen 0
        have kf1 := A4.frozen 1
        have z0 := A4.box 0 _ rfl
        have z1 := A4.box 1 _ rfl
        obtain ⟨Y57, hY, A4', hk, hB⟩ := A4.put (.slice q7 n7 c7) (.slice r7 m7 d7)
        go_simp
        (try rewrite [hY])
        replace R1 := R1.off A4 NE14 (hk _ (by simp))
        replace R3 := R3.off A4 NE34 (hk _ (by simp))
        replace A5 := A5.away (hk (fun b => b ≠ t4) (by simp)) (by omega)
        have D57 := D56.trans (hB _ HT4)
        clear hY hk hB kf0 kf1 z0 z1 A4 NE14 NE34 D56
        have A4 := A4'
        clear A4'
        refine hK _ _ ⟨(L5.on D57).c0, (L5.on D57).c1, (L6.on D57).c0, (L6.on D57).c1⟩ ?_
        clear hK K
        refine plist #[true, true, true, true, true, true, true, false] (by kernel_rfl) ?_
        refine pone 7 (by kernel_rfl) rfl fun K hK => ?_
        have kf0 := A5.frozen 0
        have kf1 := A5.frozen 1
        have z0 := A5.box 0 _ rfl
        have z1 := A5.box 1 _ rfl
        obtain ⟨Y58, hY, A5', hk, hB⟩ := A5.put (.slice q8 n8 c8) (.slice r8 m8 d8)
        go_simp
        (try rewrite [hY])
        replace R1 := R1.off A5 NE15 (hk _ (by simp))
        replace R3 := R3.off A5 NE35 (hk _ (by simp))
        replace A4 := A4.away (hk (fun b => b ≠ t5) (by simp)) (by omega)
        have D58 := D57.trans (hB _ HT5)
        clear hY hk hB kf0 kf1 z0 z1 A5 NE15 NE35 D57
        have A5 := A5'
        clear A5'
        refine hK _ _ ⟨(L5.on D58).c0, (L5.on D58).c1, (L6.on D58).c0, (L6.on D58).c1⟩ ?_
        clear hK K
        refine plist #[true, true, true, true, true, true, true, true] (by kernel_rfl) ?_
        refine pdone (by kernel_rfl) ?_ _
        go_wp2_with fail
        go_meet
        exact ⟨⟨_, q7, n7, c7, r7, m7, d7, rfl, A4, R1⟩, ⟨_, q8, n8, c8, r8, m8, d8, rfl, A5, R3⟩, D58⟩
  case rest =>
  obtain ⟨⟨b7, q7, n7, c7, r7, m7, d7, rfl, R7⟩, ⟨b8, q8, n8, c8, r8, m8, d8, rfl, R8⟩, hb⟩ := hcut
  have B_6 := B_5.trans (hb.mono B_5.size)
  replace L5 := L5.on hb
  replace L6 := L6.on hb
  clear hb B_5 HRC
  generalize wc = X6 at *
  have con := HJC.out X6 L5.2 L6.2
  have xL50 := L5.c0
  have xL51 := L5.c1
  have xL60 := L6.c0
  have xL61 := L6.c1
  go_wp2_with fail
  refine con.mono ?_
  rintro e X9 ⟨q9, n9, c9, r9, m9, d9, rfl, f1, f2, _, _, hb⟩
  have B_9 := B_6.trans (hb.mono B_6.size)
  replace L5 := L5.on hb
  replace L6 := L6.on hb
  replace R7 := R7.on hb
  replace R8 := R8.on hb
  have s9 : LabIs X9 (.agg #[.slice q9 n9 c9, .slice r9 m9 d9]) (labV rj) := ⟨_, _, _, _, _, _, rfl, f1, f2⟩
  clear con hb B_6 xL50 xL51 xL60 xL61 f1 f2
  obtain ⟨b9, hb9⟩ : ∃ b, X9.heap.size = b := ⟨_, rfl⟩
  obtain ⟨X10, hX10⟩ : ∃ Z, X9.alloc (.cells #[.slice q9 n9 c9, .slice r9 m9 d9] 28) = Z := ⟨_, rfl⟩
  have hb : Below X9.heap.size X9 X10 := by rw [← hX10]; exact below_alloc _
  have L9 : LX b9 q9 n9 c9 r9 m9 d9 (labV rj) X10 := by rw [← hX10, ← hb9]; exact LX.new s9
  have B_10 := B_9.trans (hb.mono B_9.size)
  replace L5 := L5.on hb
  replace L6 := L6.on hb
  replace R7 := R7.on hb
  replace R8 := R8.on hb
  have HX10 := Lib.hid hX10
  have HB9 := Lib.hid hb9
  clear hX10 hb9 s9 hb B_9
  go_upto_region 6 with fail
  rewrite [HB9.out, HX10.out]
  clear HB9 HX10
  have con := HKC.out X10 _ _ R7.2 R8.2
  have xR70 := R7.c0
  have xR71 := R7.c1
  have xR80 := R8.c0
  have xR81 := R8.c1
  go_wp2_with fail
  refine con.mono ?_
  rintro e X11 ⟨q10, n10, c10, r10, m10, d10, rfl, s10, hb⟩
  have B_11 := B_10.trans (hb.mono B_10.size)
  replace L5 := L5.on hb
  replace L6 := L6.on hb
  replace R7 := R7.on hb
  replace R8 := R8.on hb
  replace L9 := L9.on hb
  clear con hb B_10 xR70 xR71 xR80 xR81
  obtain ⟨b10, hb10⟩ : ∃ b, X11.heap.size = b := ⟨_, rfl⟩
  obtain ⟨X12, hX12⟩ : ∃ Z, X11.alloc (.cells #[.slice q10 n10 c10, .slice r10 m10 d10] 35) = Z := ⟨_, rfl⟩
  have hb : Below X11.heap.size X11 X12 := by rw [← hX12]; exact below_alloc _
  have L10 : RX b10 q10 n10 c10 r10 m10 d10 (labV rj) X12 := by rw [← hX12, ← hb10]; exact RX.new s10
  have B_12 := B_11.trans (hb.mono B_11.size)
  replace L5 := L5.on hb
  replace L6 := L6.on hb
  replace R7 := R7.on hb
  replace R8 := R8.on hb
  replace L9 := L9.on hb
  have HX12 := Lib.hid hX12
  have HB10 := Lib.hid hb10
  clear hX12 hb10 s10 hb B_11
  go_upto_region 7 with fail
  rewrite [HB10.out, HX12.out]
  clear HB10 HX12
  have con := HMC.out X12 L5.2 L6.2
  have xL50 := L5.c0
  have xL51 := L5.c1
  have xL60 := L6.c0
  have xL61 := L6.c1
  go_wp2_with fail
  refine con.mono ?_
  rintro e X13 ⟨q11, n11, c11, r11, m11, d11, rfl, f1, f2, _, _, hb⟩
  have B_13 := B_12.trans (hb.mono B_12.size)
  replace L5 := L5.on hb
  replace L6 := L6.on hb
  replace R7 := R7.on hb
  replace R8 := R8.on hb
  replace L9 := L9.on hb
  replace L10 := L10.on hb
  have s11 : LabIs X13 (.agg #[.slice q11 n11 c11, .slice r11 m11 d11]) (labV rm) := ⟨_, _, _, _, _, _, rfl, f1, f2⟩
  clear con hb B_12 xL50 xL51 xL60 xL61 f1 f2
  obtain ⟨b11, hb11⟩ : ∃ b, X13.heap.size = b := ⟨_, rfl⟩
  obtain ⟨X14, hX14⟩ : ∃ Z, X13.alloc (.cells #[.slice q11 n11 c11, .slice r11 m11 d11] 28) = Z := ⟨_, rfl⟩
  have hb : Below X13.heap.size X13 X14 := by rw [← hX14]; exact below_alloc _
  have L11 : LX b11 q11 n11 c11 r11 m11 d11 (labV rm) X14 := by rw [← hX14, ← hb11]; exact LX.new s11
  have B_14 := B_13.trans (hb.mono B_13.size)
  replace L5 := L5.on hb
  replace L6 := L6.on hb
  replace R7 := R7.on hb
  replace R8 := R8.on hb
  replace L9 := L9.on hb
  replace L10 := L10.on hb
  have HX14 := Lib.hid hX14
  have HB11 := Lib.hid hb11
  clear hX14 hb11 s11 hb B_13
  go_upto_region 8 with fail
  rewrite [HB11.out, HX14.out]
  clear HB11 HX14
  have con := HNC.out X14 _ _ R7.2 R8.2
  have xR70 := R7.c0
  have xR71 := R7.c1
  have xR80 := R8.c0
  have xR81 := R8.c1
  go_wp2_with fail
  refine con.mono ?_
  rintro e X15 ⟨q12, n12, c12, r12, m12, d12, rfl, s12, hb⟩
  have B_15 := B_14.trans (hb.mono B_14.size)
  replace L5 := L5.on hb
  replace L6 := L6.on hb
  replace R7 := R7.on hb
  replace R8 := R8.on hb
  replace L9 := L9.on hb
  replace L10 := L10.on hb
  replace L11 := L11.on hb
  clear con hb B_14 xR70 xR71 xR80 xR81
  obtain ⟨b12, hb12⟩ : ∃ b, X15.heap.size = b := ⟨_, rfl⟩
  obtain ⟨X16, hX16⟩ : ∃ Z, X15.alloc (.cells #[.slice q12 n12 c12, .slice r12 m12 d12] 35) = Z := ⟨_, rfl⟩
  have hb : Below X15.heap.size X15 X16 := by rw [← hX16]; exact below_alloc _
  have L12 : RX b12 q12 n12 c12 r12 m12 d12 (labV rm) X16 := by rw [← hX16, ← hb12]; exact RX.new s12
  have B_16 := B_15.trans (hb.mono B_15.size)
  replace L5 := L5.on hb
  replace L6 := L6.on hb
  replace R7 := R7.on hb
  replace R8 := R8.on hb
  replace L9 := L9.on hb
  replace L10 := L10.on hb
  replace L11 := L11.on hb
  have HX16 := Lib.hid hX16
  have HB12 := Lib.hid hb12
  clear hX16 hb12 s12 hb B_15
  go_upto_region 9 with fail
  rewrite [HB12.out, HX16.out]
  clear HB12 HX16
  obtain ⟨FA, hFA⟩ : ∃ b, flowsB l o = b := ⟨_, rfl⟩
  obtain ⟨FS, hFS⟩ : ∃ b, sameB l o = b := ⟨_, rfl⟩
  obtain ⟨T1, hT1⟩ : ∃ b, labT l = b := ⟨_, rfl⟩
  obtain ⟨T2, hT2⟩ : ∃ b, labT o = b := ⟨_, rfl⟩
  have HFA := Lib.hid hFA
  have HFS := Lib.hid hFS
  have HTl := Lib.hid hT1
  have HTo := Lib.hid hT2
  have e1 : (T1 == T2) = FS := by rw [← hT1, ← hT2, ← hFS]; exact HTS.out.symm
  clear hFA hFS hT1 hT2 HTS HJC HMC HKC HNC
  generalize labE rj = E1
  generalize labE rm = E2
  generalize labV rj = J at *
  generalize labV rm = M at *
  have e2 : (E1 == E1) = true := beq_self_eq_true _
  have e3 : (E2 == E2) = true := beq_self_eq_true _
  have e4 : (FA == FA) = true := beq_self_eq_true _
  have e5 : (FS == FS) = true := beq_self_eq_true _
  refine pregion_any (fun X => X.cell? ⟨b5, 0, none⟩ = some (.slice q5 n5 c5) ∧ X.cell? ⟨b5, 1, none⟩ = some (.slice r5 m5 d5) ∧ X.cell? ⟨b5 + 1, 0, none⟩ = some (.slice q6 n6 c6) ∧ X.cell? ⟨b5 + 1, 1, none⟩ = some (.slice r6 m6 d6) ∧ X.cell? ⟨b7, 0, none⟩ = some (.slice q7 n7 c7) ∧ X.cell? ⟨b7, 1, none⟩ = some (.slice r7 m7 d7) ∧ X.cell? ⟨b8, 0, none⟩ = some (.slice q8 n8 c8) ∧ X.cell? ⟨b8, 1, none⟩ = some (.slice r8 m8 d8) ∧ X.cell? ⟨b9, 0, none⟩ = some (.slice q9 n9 c9) ∧ X.cell? ⟨b9, 1, none⟩ = some (.slice r9 m9 d9) ∧ X.cell? ⟨b10, 0, none⟩ = some (.slice q10 n10 c10) ∧ X.cell? ⟨b10, 1, none⟩ = some (.slice r10 m10 d10) ∧ X.cell? ⟨b11, 0, none⟩ = some (.slice q11 n11 c11) ∧ X.cell? ⟨b11, 1, none⟩ = some (.slice r11 m11 d11) ∧ X.cell? ⟨b12, 0, none⟩ = some (.slice q12 n12 c12) ∧ X.cell? ⟨b12, 1, none⟩ = some (.slice r12 m12 d12)) (by kernel_rfl) ?_
  have hb : Below X16.heap.size X16 X16.drew := ⟨rfl, rfl, rfl, Nat.le_refl _, fun _ _ => rfl⟩
  obtain ⟨Pr1, hXd⟩ : ∃ Z, X16.drew = Z := ⟨_, rfl⟩
  rw [hXd] at hb ⊢
  have DP1 := B_16.trans (hb.mono B_16.size)
  replace L5 := L5.on hb
  replace L6 := L6.on hb
  replace R7 := R7.on hb
  replace R8 := R8.on hb
  replace L9 := L9.on hb
  replace L10 := L10.on hb
  replace L11 := L11.on hb
  replace L12 := L12.on hb
  clear hb hXd
  refine wpAnyH_take (i := 0) (v := (.int .i64 E1)) rfl (by kernel_rfl) (by kernel_rfl) (by kernel_rfl) (fun _ _ _ h => h) (.inl ⟨by kernel_rfl, ?_⟩) ⟨L5.c0, L5.c1, L6.c0, L6.c1, R7.c0, R7.c1, R8.c0, R8.c1, L9.c0, L9.c1, L10.c0, L10.c1, L11.c0, L11.c1, L12.c0, L12.c1⟩ ?_
  · rintro w ⟨h1, h2, h3, h4, h5, h6, h7, h8, h9, h10, h11, h12, h13, h14, h15, h16⟩; go_simp <;> omega
  refine plist #[true, false, false, false, false, false, false, false, false, false, false, false, false, false, false, false, false, false, false, false, false, false, false, false, false, false, false, false, false, false, false, false, false, false, false, false, false, false, false, false, false, false, false, false, false, false, false, false, false] (by kernel_rfl) ?_
  refine pone 1 (by kernel_rfl) rfl fun K hK => ?_
  go_simp
  refine hK _ _ ⟨L5.c0, L5.c1, L6.c0, L6.c1, R7.c0, R7.c1, R8.c0, R8.c1, L9.c0, L9.c1, L10.c0, L10.c1, L11.c0, L11.c1, L12.c0, L12.c1⟩ ?_
  clear hK K
  refine plist #[true, true, false, false, false, false, false, false, false, false, false, false, false, false, false, false, false, false, false, false, false, false, false, false, false, false, false, false, false, false, false, false, false, false, false, false, false, false, false, false, false, false, false, false, false, false, false, false, false] (by kernel_rfl) ?_
  refine pone 2 (by kernel_rfl) rfl fun K hK => ?_
  go_simp
  refine hK _ _ ⟨L5.c0, L5.c1, L6.c0, L6.c1, R7.c0, R7.c1, R8.c0, R8.c1, L9.c0, L9.c1, L10.c0, L10.c1, L11.c0, L11.c1, L12.c0, L12.c1⟩ ?_
  clear hK K
  refine plist #[true, true, true, false, false, false, false, false, false, false, false, false, false, false, false, false, false, false, false, false, false, false, false, false, false, false, false, false, false, false, false, false, false, false, false, false, false, false, false, false, false, false, false, false, false, false, false, false, false] (by kernel_rfl) ?_
  refine pone 3 (by kernel_rfl) rfl fun K hK => ?_
  go_simp
  refine hK _ _ ⟨L5.c0, L5.c1, L6.c0, L6.c1, R7.c0, R7.c1, R8.c0, R8.c1, L9.c0, L9.c1, L10.c0, L10.c1, L11.c0, L11.c1, L12.c0, L12.c1⟩ ?_
  clear hK K
  refine plist #[true, true, true, true, false, false, false, false, false, false, false, false, false, false, false, false, false, false, false, false, false, false, false, false, false, false, false, false, false, false, false, false, false, false, false, false, false, false, false, false, false, false, false, false, false, false, false, false, false] (by kernel_rfl) ?_
  refine wpAnyH_take (i := 4) (v := (.int .i64 E2)) rfl (by kernel_rfl) (by kernel_rfl) (by kernel_rfl) (fun _ _ _ h => h) (.inl ⟨by kernel_rfl, ?_⟩) ⟨L5.c0, L5.c1, L6.c0, L6.c1, R7.c0, R7.c1, R8.c0, R8.c1, L9.c0, L9.c1, L10.c0, L10.c1, L11.c0, L11.c1, L12.c0, L12.c1⟩ ?_
  · rintro w ⟨h1, h2, h3, h4, h5, h6, h7, h8, h9, h10, h11, h12, h13, h14, h15, h16⟩; go_simp <;> omega
  refine plist #[true, true, true, true, true, false, false, false, false, false, false, false, false, false, false, false, false, false, false, false, false, false, false, false, false, false, false, false, false, false, false, false, false, false, false, false, false, false, false, false, false, false, false, false, false, false, false, false, false] (by kernel_rfl) ?_
  refine pone 5 (by kernel_rfl) rfl fun K hK => ?_
  go_simp
  refine hK _ _ ⟨L5.c0, L5.c1, L6.c0, L6.c1, R7.c0, R7.c1, R8.c0, R8.c1, L9.c0, L9.c1, L10.c0, L10.c1, L11.c0, L11.c1, L12.c0, L12.c1⟩ ?_
  clear hK K
  refine plist #[true, true, true, true, true, true, false, false, false, false, false, false, false, false, false, false, false, false, false, false, false, false, false, false, false, false, false, false, false, false, false, false, false, false, false, false, false, false, false, false, false, false, false, false, false, false, false, false, false] (by kernel_rfl) ?_
  refine pone 6 (by kernel_rfl) rfl fun K hK => ?_
  go_simp
  refine hK _ _ ⟨L5.c0, L5.c1, L6.c0, L6.c1, R7.c0, R7.c1, R8.c0, R8.c1, L9.c0, L9.c1, L10.c0, L10.c1, L11.c0, L11.c1, L12.c0, L12.c1⟩ ?_
  clear hK K
  refine plist #[true, true, true, true, true, true, true, false, false, false, false, false, false, false, false, false, false, false, false, false, false, false, false, false, false, false, false, false, false, false, false, false, false, false, false, false, false, false, false, false, false, false, false, false, false, false, false, false, false] (by kernel_rfl) ?_
  refine pone 7 (by kernel_rfl) rfl fun K hK => ?_
  go_simp
  refine hK _ _ ⟨L5.c0, L5.c1, L6.c0, L6.c1, R7.c0, R7.c1, R8.c0, R8.c1, L9.c0, L9.c1, L10.c0, L10.c1, L11.c0, L11.c1, L12.c0, L12.c1⟩ ?_
  clear hK K
  refine plist #[true, true, true, true, true, true, true, true, false, false, false, false, false, false, false, false, false, false, false, false, false, false, false, false, false, false, false, false, false, false, false, false, false, false, false, false, false, false, false, false, false, false, false, false, false, false, false, false, false] (by kernel_rfl) ?_
  refine pone 8 (by kernel_rfl) rfl fun K hK => ?_
  go_simp
  refine hK _ _ ⟨L5.c0, L5.c1, L6.c0, L6.c1, R7.c0, R7.c1, R8.c0, R8.c1, L9.c0, L9.c1, L10.c0, L10.c1, L11.c0, L11.c1, L12.c0, L12.c1⟩ ?_
  clear hK K
  refine plist #[true, true, true, true, true, true, true, true, true, false, false, false, false, false, false, false, false, false, false, false, false, false, false, false, false, false, false, false, false, false, false, false, false, false, false, false, false, false, false, false, false, false, false, false, false, false, false, false, false] (by kernel_rfl) ?_
  refine wpAnyH_take (i := 9) (v := (.agg #[.slice q9 n9 c9, .slice r9 m9 d9])) rfl (by kernel_rfl) (by kernel_rfl) (by kernel_rfl) (fun _ _ _ h => h) (.inl ⟨by kernel_rfl, ?_⟩) ⟨L5.c0, L5.c1, L6.c0, L6.c1, R7.c0, R7.c1, R8.c0, R8.c1, L9.c0, L9.c1, L10.c0, L10.c1, L11.c0, L11.c1, L12.c0, L12.c1⟩ ?_
  · rintro w ⟨h1, h2, h3, h4, h5, h6, h7, h8, h9, h10, h11, h12, h13, h14, h15, h16⟩; go_simp <;> omega
  refine plist #[true, true, true, true, true, true, true, true, true, true, false, false, false, false, false, false, false, false, false, false, false, false, false, false, false, false, false, false, false, false, false, false, false, false, false, false, false, false, false, false, false, false, false, false, false, false, false, false, false] (by kernel_rfl) ?_
  refine wpAnyH_take (i := 10) (v := (.agg #[.slice q10 n10 c10, .slice r10 m10 d10])) rfl (by kernel_rfl) (by kernel_rfl) (by kernel_rfl) (fun _ _ _ h => h) (.inl ⟨by kernel_rfl, ?_⟩) ⟨L5.c0, L5.c1, L6.c0, L6.c1, R7.c0, R7.c1, R8.c0, R8.c1, L9.c0, L9.c1, L10.c0, L10.c1, L11.c0, L11.c1, L12.c0, L12.c1⟩ ?_
  · rintro w ⟨h1, h2, h3, h4, h5, h6, h7, h8, h9, h10, h11, h12, h13, h14, h15, h16⟩; go_simp <;> omega
  have con := lawSame_any _ _ J Pr1 L9.2 L10.2 hjf
  refine plist #[true, true, true, true, true, true, true, true, true, true, true, false, false, false, false, false, false, false, false, false, false, false, false, false, false, false, false, false, false, false, false, false, false, false, false, false, false, false, false, false, false, false, false, false, false, false, false, false, false] (by kernel_rfl) ?_
  refine pone 11 (by kernel_rfl) rfl fun K hK => ?_
  go_simp
  refine con.mono ?_
  rintro e Pr2 ⟨rfl, hb⟩
  have DP2 := DP1.trans (hb.mono DP1.size)
  replace L5 := L5.on hb
  replace L6 := L6.on hb
  replace R7 := R7.on hb
  replace R8 := R8.on hb
  replace L9 := L9.on hb
  replace L10 := L10.on hb
  replace L11 := L11.on hb
  replace L12 := L12.on hb
  clear hb con DP1
  refine hK _ _ ⟨L5.c0, L5.c1, L6.c0, L6.c1, R7.c0, R7.c1, R8.c0, R8.c1, L9.c0, L9.c1, L10.c0, L10.c1, L11.c0, L11.c1, L12.c0, L12.c1⟩ ?_
  clear hK K
  refine plist #[true, true, true, true, true, true, true, true, true, true, true, true, false, false, false, false, false, false, false, false, false, false, false, false, false, false, false, false, false, false, false, false, false, false, false, false, false, false, false, false, false, false, false, false, false, false, false, false, false] (by kernel_rfl) ?_
  refine pone 12 (by kernel_rfl) rfl fun K hK => ?_
  go_simp
  refine hK _ _ ⟨L5.c0, L5.c1, L6.c0, L6.c1, R7.c0, R7.c1, R8.c0, R8.c1, L9.c0, L9.c1, L10.c0, L10.c1, L11.c0, L11.c1, L12.c0, L12.c1⟩ ?_
  clear hK K
  refine plist #[true, true, true, true, true, true, true, true, true, true, true, true, true, false, false, false, false, false, false, false, false, false, false, false, false, false, false, false, false, false, false, false, false, false, false, false, false, false, false, false, false, false, false, false, false, false, false, false, false] (by kernel_rfl) ?_
  refine pone 13 (by kernel_rfl) rfl fun K hK => ?_
  go_simp
  refine hK _ _ ⟨L5.c0, L5.c1, L6.c0, L6.c1, R7.c0, R7.c1, R8.c0, R8.c1, L9.c0, L9.c1, L10.c0, L10.c1, L11.c0, L11.c1, L12.c0, L12.c1⟩ ?_
  clear hK K
  refine plist #[true, true, true, true, true, true, true, true, true, true, true, true, true, true, false, false, false, false, false, false, false, false, false, false, false, false, false, false, false, false, false, false, false, false, false, false, false, false, false, false, false, false, false, false, false, false, false, false, false] (by kernel_rfl) ?_
  refine wpAnyH_take (i := 14) (v := (.agg #[.slice q11 n11 c11, .slice r11 m11 d11])) rfl (by kernel_rfl) (by kernel_rfl) (by kernel_rfl) (fun _ _ _ h => h) (.inl ⟨by kernel_rfl, ?_⟩) ⟨L5.c0, L5.c1, L6.c0, L6.c1, R7.c0, R7.c1, R8.c0, R8.c1, L9.c0, L9.c1, L10.c0, L10.c1, L11.c0, L11.c1, L12.c0, L12.c1⟩ ?_
  · rintro w ⟨h1, h2, h3, h4, h5, h6, h7, h8, h9, h10, h11, h12, h13, h14, h15, h16⟩; go_simp <;> omega
  refine plist #[true, true, true, true, true, true, true, true, true, true, true, true, true, true, true, false, false, false, false, false, false, false, false, false, false, false, false, false, false, false, false, false, false, false, false, false, false, false, false, false, false, false, false, false, false, false, false, false, false] (by kernel_rfl) ?_
  refine wpAnyH_take (i := 15) (v := (.agg #[.slice q12 n12 c12, .slice r12 m12 d12])) rfl (by kernel_rfl) (by kernel_rfl) (by kernel_rfl) (fun _ _ _ h => h) (.inl ⟨by kernel_rfl, ?_⟩) ⟨L5.c0, L5.c1, L6.c0, L6.c1, R7.c0, R7.c1, R8.c0, R8.c1, L9.c0, L9.c1, L10.c0, L10.c1, L11.c0, L11.c1, L12.c0, L12.c1⟩ ?_
  · rintro w ⟨h1, h2, h3, h4, h5, h6, h7, h8, h9, h10, h11, h12, h13, h14, h15, h16⟩; go_simp <;> omega
  have con := lawSame_any _ _ M Pr2 L11.2 L12.2 hmf
  refine plist #[true, true, true, true, true, true, true, true, true, true, true, true, true, true, true, true, false, false, false, false, false, false, false, false, false, false, false, false, false, false, false, false, false, false, false, false, false, false, false, false, false, false, false, false, false, false, false, false, false] (by kernel_rfl) ?_
  refine pone 16 (by kernel_rfl) rfl fun K hK => ?_
  go_simp
  refine con.mono ?_
  rintro e Pr3 ⟨rfl, hb⟩
  have DP3 := DP2.trans (hb.mono DP2.size)
  replace L5 := L5.on hb
  replace L6 := L6.on hb
  replace R7 := R7.on hb
  replace R8 := R8.on hb
  replace L9 := L9.on hb
  replace L10 := L10.on hb
  replace L11 := L11.on hb
  replace L12 := L12.on hb
  clear hb con DP2
  refine hK _ _ ⟨L5.c0, L5.c1, L6.c0, L6.c1, R7.c0, R7.c1, R8.c0, R8.c1, L9.c0, L9.c1, L10.c0, L10.c1, L11.c0, L11.c1, L12.c0, L12.c1⟩ ?_
  clear hK K
  refine plist #[true, true, true, true, true, true, true, true, true, true, true, true, true, true, true, true, true, false, false, false, false, false, false, false, false, false, false, false, false, false, false, false, false, false, false, false, false, false, false, false, false, false, false, false, false, false, false, false, false] (by kernel_rfl) ?_
  refine pone 17 (by kernel_rfl) rfl fun K hK => ?_
  go_simp
  refine hK _ _ ⟨L5.c0, L5.c1, L6.c0, L6.c1, R7.c0, R7.c1, R8.c0, R8.c1, L9.c0, L9.c1, L10.c0, L10.c1, L11.c0, L11.c1, L12.c0, L12.c1⟩ ?_
  clear hK K
  refine plist #[true, true, true, true, true, true, true, true, true, true, true, true, true, true, true, true, true, true, false, false, false, false, false, false, false, false, false, false, false, false, false, false, false, false, false, false, false, false, false, false, false, false, false, false, false, false, false, false, false] (by kernel_rfl) ?_
  refine pone 18 (by kernel_rfl) rfl fun K hK => ?_
  go_simp
  refine hK _ _ ⟨L5.c0, L5.c1, L6.c0, L6.c1, R7.c0, R7.c1, R8.c0, R8.c1, L9.c0, L9.c1, L10.c0, L10.c1, L11.c0, L11.c1, L12.c0, L12.c1⟩ ?_
  clear hK K
  refine plist #[true, true, true, true, true, true, true, true, true, true, true, true, true, true, true, true, true, true, true, false, false, false, false, false, false, false, false, false, false, false, false, false, false, false, false, false, false, false, false, false, false, false, false, false, false, false, false, false, false] (by kernel_rfl) ?_
  refine wpAnyH_take (i := 19) (v := (.agg #[.slice q5 n5 c5, .slice r5 m5 d5])) rfl (by kernel_rfl) (by kernel_rfl) (by kernel_rfl) (fun _ _ _ h => h) (.inl ⟨by kernel_rfl, ?_⟩) ⟨L5.c0, L5.c1, L6.c0, L6.c1, R7.c0, R7.c1, R8.c0, R8.c1, L9.c0, L9.c1, L10.c0, L10.c1, L11.c0, L11.c1, L12.c0, L12.c1⟩ ?_
  · rintro w ⟨h1, h2, h3, h4, h5, h6, h7, h8, h9, h10, h11, h12, h13, h14, h15, h16⟩; go_simp <;> omega
  refine plist #[true, true, true, true, true, true, true, true, true, true, true, true, true, true, true, true, true, true, true, true, false, false, false, false, false, false, false, false, false, false, false, false, false, false, false, false, false, false, false, false, false, false, false, false, false, false, false, false, false] (by kernel_rfl) ?_
  refine wpAnyH_take (i := 20) (v := (.agg #[.slice q6 n6 c6, .slice r6 m6 d6])) rfl (by kernel_rfl) (by kernel_rfl) (by kernel_rfl) (fun _ _ _ h => h) (.inl ⟨by kernel_rfl, ?_⟩) ⟨L5.c0, L5.c1, L6.c0, L6.c1, R7.c0, R7.c1, R8.c0, R8.c1, L9.c0, L9.c1, L10.c0, L10.c1, L11.c0, L11.c1, L12.c0, L12.c1⟩ ?_
  · rintro w ⟨h1, h2, h3, h4, h5, h6, h7, h8, h9, h10, h11, h12, h13, h14, h15, h16⟩; go_simp <;> omega
  refine plist #[true, true, true, true, true, true, true, true, true, true, true, true, true, true, true, true, true, true, true, true, true, false, false, false, false, false, false, false, false, false, false, false, false, false, false, false, false, false, false, false, false, false, false, false, false, false, false, false, false] (by kernel_rfl) ?_
  refine wpAnyH_take (i := 22) (v := (.agg #[.slice q7 n7 c7, .slice r7 m7 d7])) rfl (by kernel_rfl) (by kernel_rfl) (by kernel_rfl) (fun _ _ _ h => h) (.inl ⟨by kernel_rfl, ?_⟩) ⟨L5.c0, L5.c1, L6.c0, L6.c1, R7.c0, R7.c1, R8.c0, R8.c1, L9.c0, L9.c1, L10.c0, L10.c1, L11.c0, L11.c1, L12.c0, L12.c1⟩ ?_
  · rintro w ⟨h1, h2, h3, h4, h5, h6, h7, h8, h9, h10, h11, h12, h13, h14, h15, h16⟩; go_simp <;> omega
  refine plist #[true, true, true, true, true, true, true, true, true, true, true, true, true, true, true, true, true, true, true, true, true, false, true, false, false, false, false, false, false, false, false, false, false, false, false, false, false, false, false, false, false, false, false, false, false, false, false, false, false] (by kernel_rfl) ?_
  refine wpAnyH_take (i := 23) (v := (.agg #[.slice q8 n8 c8, .slice r8 m8 d8])) rfl (by kernel_rfl) (by kernel_rfl) (by kernel_rfl) (fun _ _ _ h => h) (.inl ⟨by kernel_rfl, ?_⟩) ⟨L5.c0, L5.c1, L6.c0, L6.c1, R7.c0, R7.c1, R8.c0, R8.c1, L9.c0, L9.c1, L10.c0, L10.c1, L11.c0, L11.c1, L12.c0, L12.c1⟩ ?_
  · rintro w ⟨h1, h2, h3, h4, h5, h6, h7, h8, h9, h10, h11, h12, h13, h14, h15, h16⟩; go_simp <;> omega
  have con := Lbl.Flows_any _ _ l o Pr3 L5.2 L6.2 fl fo
  rewrite [HFA.out] at con
  refine plist #[true, true, true, true, true, true, true, true, true, true, true, true, true, true, true, true, true, true, true, true, true, false, true, true, false, false, false, false, false, false, false, false, false, false, false, false, false, false, false, false, false, false, false, false, false, false, false, false, false] (by kernel_rfl) ?_
  refine pone 21 (by kernel_rfl) rfl fun K hK => ?_
  go_simp
  refine con.mono ?_
  rintro e Pr4 ⟨rfl, hb⟩
  have DP4 := DP3.trans (hb.mono DP3.size)
  replace L5 := L5.on hb
  replace L6 := L6.on hb
  replace R7 := R7.on hb
  replace R8 := R8.on hb
  replace L9 := L9.on hb
  replace L10 := L10.on hb
  replace L11 := L11.on hb
  replace L12 := L12.on hb
  clear hb con DP3
  refine hK _ _ ⟨L5.c0, L5.c1, L6.c0, L6.c1, R7.c0, R7.c1, R8.c0, R8.c1, L9.c0, L9.c1, L10.c0, L10.c1, L11.c0, L11.c1, L12.c0, L12.c1⟩ ?_
  clear hK K
  have con := refFlows_any _ _ l o Pr4 R7.2 R8.2 fl fo
  rewrite [HFA.out] at con
  refine plist #[true, true, true, true, true, true, true, true, true, true, true, true, true, true, true, true, true, true, true, true, true, true, true, true, false, false, false, false, false, false, false, false, false, false, false, false, false, false, false, false, false, false, false, false, false, false, false, false, false] (by kernel_rfl) ?_
  refine pone 24 (by kernel_rfl) rfl fun K hK => ?_
  go_simp
  refine con.mono ?_
  rintro e Pr5 ⟨rfl, hb⟩
  have DP5 := DP4.trans (hb.mono DP4.size)
  replace L5 := L5.on hb
  replace L6 := L6.on hb
  replace R7 := R7.on hb
  replace R8 := R8.on hb
  replace L9 := L9.on hb
  replace L10 := L10.on hb
  replace L11 := L11.on hb
  replace L12 := L12.on hb
  clear hb con DP4
  refine hK _ _ ⟨L5.c0, L5.c1, L6.c0, L6.c1, R7.c0, R7.c1, R8.c0, R8.c1, L9.c0, L9.c1, L10.c0, L10.c1, L11.c0, L11.c1, L12.c0, L12.c1⟩ ?_
  clear hK K
  refine plist #[true, true, true, true, true, true, true, true, true, true, true, true, true, true, true, true, true, true, true, true, true, true, true, true, true, false, false, false, false, false, false, false, false, false, false, false, false, false, false, false, false, false, false, false, false, false, false, false, false] (by kernel_rfl) ?_
  refine pone 25 (by kernel_rfl) rfl fun K hK => ?_
  go_simp
  refine hK _ _ ⟨L5.c0, L5.c1, L6.c0, L6.c1, R7.c0, R7.c1, R8.c0, R8.c1, L9.c0, L9.c1, L10.c0, L10.c1, L11.c0, L11.c1, L12.c0, L12.c1⟩ ?_
  clear hK K
  refine plist #[true, true, true, true, true, true, true, true, true, true, true, true, true, true, true, true, true, true, true, true, true, true, true, true, true, true, false, false, false, false, false, false, false, false, false, false, false, false, false, false, false, false, false, false, false, false, false, false, false] (by kernel_rfl) ?_
  refine pone 26 (by kernel_rfl) rfl fun K hK => ?_
  go_simp
  refine hK _ _ ⟨L5.c0, L5.c1, L6.c0, L6.c1, R7.c0, R7.c1, R8.c0, R8.c1, L9.c0, L9.c1, L10.c0, L10.c1, L11.c0, L11.c1, L12.c0, L12.c1⟩ ?_
  clear hK K
  refine plist #[true, true, true, true, true, true, true, true, true, true, true, true, true, true, true, true, true, true, true, true, true, true, true, true, true, true, true, false, false, false, false, false, false, false, false, false, false, false, false, false, false, false, false, false, false, false, false, false, false] (by kernel_rfl) ?_
  refine pone 27 (by kernel_rfl) rfl fun K hK => ?_
  go_simp
  refine hK _ _ ⟨L5.c0, L5.c1, L6.c0, L6.c1, R7.c0, R7.c1, R8.c0, R8.c1, L9.c0, L9.c1, L10.c0, L10.c1, L11.c0, L11.c1, L12.c0, L12.c1⟩ ?_
  clear hK K
  refine plist #[true, true, true, true, true, true, true, true, true, true, true, true, true, true, true, true, true, true, true, true, true, true, true, true, true, true, true, true, false, false, false, false, false, false, false, false, false, false, false, false, false, false, false, false, false, false, false, false, false] (by kernel_rfl) ?_
  refine wpAnyH_take (i := 28) (v := (.agg #[.slice q5 n5 c5, .slice r5 m5 d5])) rfl (by kernel_rfl) (by kernel_rfl) (by kernel_rfl) (fun _ _ _ h => h) (.inl ⟨by kernel_rfl, ?_⟩) ⟨L5.c0, L5.c1, L6.c0, L6.c1, R7.c0, R7.c1, R8.c0, R8.c1, L9.c0, L9.c1, L10.c0, L10.c1, L11.c0, L11.c1, L12.c0, L12.c1⟩ ?_
  · rintro w ⟨h1, h2, h3, h4, h5, h6, h7, h8, h9, h10, h11, h12, h13, h14, h15, h16⟩; go_simp <;> omega
  refine plist #[true, true, true, true, true, true, true, true, true, true, true, true, true, true, true, true, true, true, true, true, true, true, true, true, true, true, true, true, true, false, false, false, false, false, false, false, false, false, false, false, false, false, false, false, false, false, false, false, false] (by kernel_rfl) ?_
  refine wpAnyH_take (i := 29) (v := (.agg #[.slice q6 n6 c6, .slice r6 m6 d6])) rfl (by kernel_rfl) (by kernel_rfl) (by kernel_rfl) (fun _ _ _ h => h) (.inl ⟨by kernel_rfl, ?_⟩) ⟨L5.c0, L5.c1, L6.c0, L6.c1, R7.c0, R7.c1, R8.c0, R8.c1, L9.c0, L9.c1, L10.c0, L10.c1, L11.c0, L11.c1, L12.c0, L12.c1⟩ ?_
  · rintro w ⟨h1, h2, h3, h4, h5, h6, h7, h8, h9, h10, h11, h12, h13, h14, h15, h16⟩; go_simp <;> omega
  refine plist #[true, true, true, true, true, true, true, true, true, true, true, true, true, true, true, true, true, true, true, true, true, true, true, true, true, true, true, true, true, true, false, false, false, false, false, false, false, false, false, false, false, false, false, false, false, false, false, false, false] (by kernel_rfl) ?_
  refine wpAnyH_take (i := 31) (v := (.agg #[.slice q5 n5 c5, .slice r5 m5 d5])) rfl (by kernel_rfl) (by kernel_rfl) (by kernel_rfl) (fun _ _ _ h => h) (.inl ⟨by kernel_rfl, ?_⟩) ⟨L5.c0, L5.c1, L6.c0, L6.c1, R7.c0, R7.c1, R8.c0, R8.c1, L9.c0, L9.c1, L10.c0, L10.c1, L11.c0, L11.c1, L12.c0, L12.c1⟩ ?_
  · rintro w ⟨h1, h2, h3, h4, h5, h6, h7, h8, h9, h10, h11, h12, h13, h14, h15, h16⟩; go_simp <;> omega
  refine plist #[true, true, true, true, true, true, true, true, true, true, true, true, true, true, true, true, true, true, true, true, true, true, true, true, true, true, true, true, true, true, false, true, false, false, false, false, false, false, false, false, false, false, false, false, false, false, false, false, false] (by kernel_rfl) ?_
  refine wpAnyH_take (i := 33) (v := (.agg #[.slice q6 n6 c6, .slice r6 m6 d6])) rfl (by kernel_rfl) (by kernel_rfl) (by kernel_rfl) (fun _ _ _ h => h) (.inl ⟨by kernel_rfl, ?_⟩) ⟨L5.c0, L5.c1, L6.c0, L6.c1, R7.c0, R7.c1, R8.c0, R8.c1, L9.c0, L9.c1, L10.c0, L10.c1, L11.c0, L11.c1, L12.c0, L12.c1⟩ ?_
  · rintro w ⟨h1, h2, h3, h4, h5, h6, h7, h8, h9, h10, h11, h12, h13, h14, h15, h16⟩; go_simp <;> omega
  have con := Lbl.Same_any _ _ l o Pr5 L5.2 L6.2 fl fo
  rewrite [HFS.out] at con
  refine plist #[true, true, true, true, true, true, true, true, true, true, true, true, true, true, true, true, true, true, true, true, true, true, true, true, true, true, true, true, true, true, false, true, false, true, false, false, false, false, false, false, false, false, false, false, false, false, false, false, false] (by kernel_rfl) ?_
  refine pone 30 (by kernel_rfl) rfl fun K hK => ?_
  go_simp
  refine con.mono ?_
  rintro e Pr6 ⟨rfl, hb⟩
  have DP6 := DP5.trans (hb.mono DP5.size)
  replace L5 := L5.on hb
  replace L6 := L6.on hb
  replace R7 := R7.on hb
  replace R8 := R8.on hb
  replace L9 := L9.on hb
  replace L10 := L10.on hb
  replace L11 := L11.on hb
  replace L12 := L12.on hb
  clear hb con DP5
  refine hK _ _ ⟨L5.c0, L5.c1, L6.c0, L6.c1, R7.c0, R7.c1, R8.c0, R8.c1, L9.c0, L9.c1, L10.c0, L10.c1, L11.c0, L11.c1, L12.c0, L12.c1⟩ ?_
  clear hK K
  have con := Lbl.Text_any _ l Pr6 L5.2 fl (by have := HSl.out; omega) (by have := HSl.out; omega)
  rewrite [HTl.out] at con
  refine plist #[true, true, true, true, true, true, true, true, true, true, true, true, true, true, true, true, true, true, true, true, true, true, true, true, true, true, true, true, true, true, true, true, false, true, false, false, false, false, false, false, false, false, false, false, false, false, false, false, false] (by kernel_rfl) ?_
  refine pone 32 (by kernel_rfl) rfl fun K hK => ?_
  go_simp
  refine con.mono ?_
  rintro e Pr7 ⟨rfl, hb⟩
  have DP7 := DP6.trans (hb.mono DP6.size)
  replace L5 := L5.on hb
  replace L6 := L6.on hb
  replace R7 := R7.on hb
  replace R8 := R8.on hb
  replace L9 := L9.on hb
  replace L10 := L10.on hb
  replace L11 := L11.on hb
  replace L12 := L12.on hb
  clear hb con DP6
  refine hK _ _ ⟨L5.c0, L5.c1, L6.c0, L6.c1, R7.c0, R7.c1, R8.c0, R8.c1, L9.c0, L9.c1, L10.c0, L10.c1, L11.c0, L11.c1, L12.c0, L12.c1⟩ ?_
  clear hK K
  have con := Lbl.Text_any _ o Pr7 L6.2 fo (by have := HSo.out; omega) (by have := HSo.out; omega)
  rewrite [HTo.out] at con
  refine plist #[true, true, true, true, true, true, true, true, true, true, true, true, true, true, true, true, true, true, true, true, true, true, true, true, true, true, true, true, true, true, true, true, true, true, false, false, false, false, false, false, false, false, false, false, false, false, false, false, false] (by kernel_rfl) ?_
  refine pone 34 (by kernel_rfl) rfl fun K hK => ?_
  go_simp
  refine con.mono ?_
  rintro e Pr8 ⟨rfl, hb⟩
  have DP8 := DP7.trans (hb.mono DP7.size)
  replace L5 := L5.on hb
  replace L6 := L6.on hb
  replace R7 := R7.on hb
  replace R8 := R8.on hb
  replace L9 := L9.on hb
  replace L10 := L10.on hb
  replace L11 := L11.on hb
  replace L12 := L12.on hb
  clear hb con DP7
  refine hK _ _ ⟨L5.c0, L5.c1, L6.c0, L6.c1, R7.c0, R7.c1, R8.c0, R8.c1, L9.c0, L9.c1, L10.c0, L10.c1, L11.c0, L11.c1, L12.c0, L12.c1⟩ ?_
  clear hK K
  refine plist #[true, true, true, true, true, true, true, true, true, true, true, true, true, true, true, true, true, true, true, true, true, true, true, true, true, true, true, true, true, true, true, true, true, true, true, false, false, false, false, false, false, false, false, false, false, false, false, false, false] (by kernel_rfl) ?_
  refine pone 35 (by kernel_rfl) rfl fun K hK => ?_
  go_simp
  refine hK _ _ ⟨L5.c0, L5.c1, L6.c0, L6.c1, R7.c0, R7.c1, R8.c0, R8.c1, L9.c0, L9.c1, L10.c0, L10.c1, L11.c0, L11.c1, L12.c0, L12.c1⟩ ?_
  clear hK K
  refine plist #[true, true, true, true, true, true, true, true, true, true, true, true, true, true, true, true, true, true, true, true, true, true, true, true, true, true, true, true, true, true, true, true, true, true, true, true, false, false, false, false, false, false, false, false, false, false, false, false, false] (by kernel_rfl) ?_
  refine pone 36 (by kernel_rfl) rfl fun K hK => ?_
  go_simp
  refine hK _ _ ⟨L5.c0, L5.c1, L6.c0, L6.c1, R7.c0, R7.c1, R8.c0, R8.c1, L9.c0, L9.c1, L10.c0, L10.c1, L11.c0, L11.c1, L12.c0, L12.c1⟩ ?_
  clear hK K
  refine plist #[true, true, true, true, true, true, true, true, true, true, true, true, true, true, true, true, true, true, true, true, true, true, true, true, true, true, true, true, true, true, true, true, true, true, true, true, true, false, false, false, false, false, false, false, false, false, false, false, false] (by kernel_rfl) ?_
  refine pone 37 (by kernel_rfl) rfl fun K hK => ?_
  go_simp
  refine hK _ _ ⟨L5.c0, L5.c1, L6.c0, L6.c1, R7.c0, R7.c1, R8.c0, R8.c1, L9.c0, L9.c1, L10.c0, L10.c1, L11.c0, L11.c1, L12.c0, L12.c1⟩ ?_
  clear hK K
  refine plist #[true, true, true, true, true, true, true, true, true, true, true, true, true, true, true, true, true, true, true, true, true, true, true, true, true, true, true, true, true, true, true, true, true, true, true, true, true, true, false, false, false, false, false, false, false, false, false, false, false] (by kernel_rfl) ?_
  refine pone 38 (by kernel_rfl) rfl fun K hK => ?_
  go_simp
  refine hK _ _ ⟨L5.c0, L5.c1, L6.c0, L6.c1, R7.c0, R7.c1, R8.c0, R8.c1, L9.c0, L9.c1, L10.c0, L10.c1, L11.c0, L11.c1, L12.c0, L12.c1⟩ ?_
  clear hK K
  refine plist #[true, true, true, true, true, true, true, true, true, true, true, true, true, true, true, true, true, true, true, true, true, true, true, true, true, true, true, true, true, true, true, true, true, true, true, true, true, true, true, false, false, false, false, false, false, false, false, false, false] (by kernel_rfl) ?_
  refine wpAnyH_take (i := 39) (v := (.agg #[.slice q5 n5 c5, .slice r5 m5 d5])) rfl (by kernel_rfl) (by kernel_rfl) (by kernel_rfl) (fun _ _ _ h => h) (.inl ⟨by kernel_rfl, ?_⟩) ⟨L5.c0, L5.c1, L6.c0, L6.c1, R7.c0, R7.c1, R8.c0, R8.c1, L9.c0, L9.c1, L10.c0, L10.c1, L11.c0, L11.c1, L12.c0, L12.c1⟩ ?_
  · rintro w ⟨h1, h2, h3, h4, h5, h6, h7, h8, h9, h10, h11, h12, h13, h14, h15, h16⟩; go_simp <;> omega
  refine plist #[true, true, true, true, true, true, true, true, true, true, true, true, true, true, true, true, true, true, true, true, true, true, true, true, true, true, true, true, true, true, true, true, true, true, true, true, true, true, true, true, false, false, false, false, false, false, false, false, false] (by kernel_rfl) ?_
  refine wpAnyH_take (i := 40) (v := (.agg #[.slice q7 n7 c7, .slice r7 m7 d7])) rfl (by kernel_rfl) (by kernel_rfl) (by kernel_rfl) (fun _ _ _ h => h) (.inl ⟨by kernel_rfl, ?_⟩) ⟨L5.c0, L5.c1, L6.c0, L6.c1, R7.c0, R7.c1, R8.c0, R8.c1, L9.c0, L9.c1, L10.c0, L10.c1, L11.c0, L11.c1, L12.c0, L12.c1⟩ ?_
  · rintro w ⟨h1, h2, h3, h4, h5, h6, h7, h8, h9, h10, h11, h12, h13, h14, h15, h16⟩; go_simp <;> omega
  have con := lawSame_any _ _ l Pr8 L5.2 R7.2 fl
  refine plist #[true, true, true, true, true, true, true, true, true, true, true, true, true, true, true, true, true, true, true, true, true, true, true, true, true, true, true, true, true, true, true, true, true, true, true, true, true, true, true, true, true, false, false, false, false, false, false, false, false] (by kernel_rfl) ?_
  refine pone 41 (by kernel_rfl) rfl fun K hK => ?_
  go_simp
  refine con.mono ?_
  rintro e Pr9 ⟨rfl, hb⟩
  have DP9 := DP8.trans (hb.mono DP8.size)
  replace L5 := L5.on hb
  replace L6 := L6.on hb
  replace R7 := R7.on hb
  replace R8 := R8.on hb
  replace L9 := L9.on hb
  replace L10 := L10.on hb
  replace L11 := L11.on hb
  replace L12 := L12.on hb
  clear hb con DP8
  refine hK _ _ ⟨L5.c0, L5.c1, L6.c0, L6.c1, R7.c0, R7.c1, R8.c0, R8.c1, L9.c0, L9.c1, L10.c0, L10.c1, L11.c0, L11.c1, L12.c0, L12.c1⟩ ?_
  clear hK K
  refine plist #[true, true, true, true, true, true, true, true, true, true, true, true, true, true, true, true, true, true, true, true, true, true, true, true, true, true, true, true, true, true, true, true, true, true, true, true, true, true, true, true, true, true, false, false, false, false, false, false, false] (by kernel_rfl) ?_
  refine pone 42 (by kernel_rfl) rfl fun K hK => ?_
  go_simp
  refine hK _ _ ⟨L5.c0, L5.c1, L6.c0, L6.c1, R7.c0, R7.c1, R8.c0, R8.c1, L9.c0, L9.c1, L10.c0, L10.c1, L11.c0, L11.c1, L12.c0, L12.c1⟩ ?_
  clear hK K
  refine plist #[true, true, true, true, true, true, true, true, true, true, true, true, true, true, true, true, true, true, true, true, true, true, true, true, true, true, true, true, true, true, true, true, true, true, true, true, true, true, true, true, true, true, true, false, false, false, false, false, false] (by kernel_rfl) ?_
  refine pone 43 (by kernel_rfl) rfl fun K hK => ?_
  go_simp
  refine hK _ _ ⟨L5.c0, L5.c1, L6.c0, L6.c1, R7.c0, R7.c1, R8.c0, R8.c1, L9.c0, L9.c1, L10.c0, L10.c1, L11.c0, L11.c1, L12.c0, L12.c1⟩ ?_
  clear hK K
  refine plist #[true, true, true, true, true, true, true, true, true, true, true, true, true, true, true, true, true, true, true, true, true, true, true, true, true, true, true, true, true, true, true, true, true, true, true, true, true, true, true, true, true, true, true, true, false, false, false, false, false] (by kernel_rfl) ?_
  refine wpAnyH_take (i := 44) (v := (.agg #[.slice q6 n6 c6, .slice r6 m6 d6])) rfl (by kernel_rfl) (by kernel_rfl) (by kernel_rfl) (fun _ _ _ h => h) (.inl ⟨by kernel_rfl, ?_⟩) ⟨L5.c0, L5.c1, L6.c0, L6.c1, R7.c0, R7.c1, R8.c0, R8.c1, L9.c0, L9.c1, L10.c0, L10.c1, L11.c0, L11.c1, L12.c0, L12.c1⟩ ?_
  · rintro w ⟨h1, h2, h3, h4, h5, h6, h7, h8, h9, h10, h11, h12, h13, h14, h15, h16⟩; go_simp <;> omega
  refine plist #[true, true, true, true, true, true, true, true, true, true, true, true, true, true, true, true, true, true, true, true, true, true, true, true, true, true, true, true, true, true, true, true, true, true, true, true, true, true, true, true, true, true, true, true, true, false, false, false, false] (by kernel_rfl) ?_
  refine wpAnyH_take (i := 45) (v := (.agg #[.slice q8 n8 c8, .slice r8 m8 d8])) rfl (by kernel_rfl) (by kernel_rfl) (by kernel_rfl) (fun _ _ _ h => h) (.inl ⟨by kernel_rfl, ?_⟩) ⟨L5.c0, L5.c1, L6.c0, L6.c1, R7.c0, R7.c1, R8.c0, R8.c1, L9.c0, L9.c1, L10.c0, L10.c1, L11.c0, L11.c1, L12.c0, L12.c1⟩ ?_
  · rintro w ⟨h1, h2, h3, h4, h5, h6, h7, h8, h9, h10, h11, h12, h13, h14, h15, h16⟩; go_simp <;> omega
  have con := lawSame_any _ _ o Pr9 L6.2 R8.2 fo
  refine plist #[true, true, true, true, true, true, true, true, true, true, true, true, true, true, true, true, true, true, true, true, true, true, true, true, true, true, true, true, true, true, true, true, true, true, true, true, true, true, true, true, true, true, true, true, true, true, false, false, false] (by kernel_rfl) ?_
  refine pone 46 (by kernel_rfl) rfl fun K hK => ?_
  go_simp
  refine con.mono ?_
  rintro e Pr10 ⟨rfl, hb⟩
  have DP10 := DP9.trans (hb.mono DP9.size)
  replace L5 := L5.on hb
  replace L6 := L6.on hb
  replace R7 := R7.on hb
  replace R8 := R8.on hb
  replace L9 := L9.on hb
  replace L10 := L10.on hb
  replace L11 := L11.on hb
  replace L12 := L12.on hb
  clear hb con DP9
  refine hK _ _ ⟨L5.c0, L5.c1, L6.c0, L6.c1, R7.c0, R7.c1, R8.c0, R8.c1, L9.c0, L9.c1, L10.c0, L10.c1, L11.c0, L11.c1, L12.c0, L12.c1⟩ ?_
  clear hK K
  refine plist #[true, true, true, true, true, true, true, true, true, true, true, true, true, true, true, true, true, true, true, true, true, true, true, true, true, true, true, true, true, true, true, true, true, true, true, true, true, true, true, true, true, true, true, true, true, true, true, false, false] (by kernel_rfl) ?_
  refine pone 47 (by kernel_rfl) rfl fun K hK => ?_
  go_simp
  refine hK _ _ ⟨L5.c0, L5.c1, L6.c0, L6.c1, R7.c0, R7.c1, R8.c0, R8.c1, L9.c0, L9.c1, L10.c0, L10.c1, L11.c0, L11.c1, L12.c0, L12.c1⟩ ?_
  clear hK K
  refine plist #[true, true, true, true, true, true, true, true, true, true, true, true, true, true, true, true, true, true, true, true, true, true, true, true, true, true, true, true, true, true, true, true, true, true, true, true, true, true, true, true, true, true, true, true, true, true, true, true, false] (by kernel_rfl) ?_
  refine pone 48 (by kernel_rfl) rfl fun K hK => ?_
  go_simp
  refine hK _ _ ⟨L5.c0, L5.c1, L6.c0, L6.c1, R7.c0, R7.c1, R8.c0, R8.c1, L9.c0, L9.c1, L10.c0, L10.c1, L11.c0, L11.c1, L12.c0, L12.c1⟩ ?_
  clear hK K
  refine pdone (by kernel_rfl) ?_ _
  go_wp2
  go_ret
  exact ⟨by first | rfl | simp, DP10⟩

theorem proved : Rows.LabelJoinsCardSaid := card walk
end Go.Proofs.YtdlofjcblcpgpaaGreatDoor.labelJoins
