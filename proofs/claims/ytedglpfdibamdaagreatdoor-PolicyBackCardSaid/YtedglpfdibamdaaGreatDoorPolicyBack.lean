/- PolicyBack: the law returns true at whatever input, and writes nothing that was there: its tied card. Conditions: none. -/
import Derived.Test.YtedglpfdibamdaaGreatDoorBaseJ
import Derived.Deep.DeepCutAuto
namespace Go.Proofs.YtedglpfdibamdaaGreatDoor.policyBack
open Go.RowKit Go.Shelf Url Org Frm Cls Lbl Pol
attribute [local go_sem] Oper.semAt_some
set_option linter.unusedVariables false

theorem row_by {w : World} {a : Option Addr} {len cap : Nat} {zs : List Int} (h : IsRow .u8 w a len cap zs) : ∃ bs : List UInt8, By w (.slice a len cap) bs := by
  rcases h with ⟨rfl, rfl, rfl, rfl⟩ | ⟨x, rfl, h1, h2, h3, h4, h5⟩
  · exact ⟨[], by_nil w⟩
  · have hz : ∀ i, i < len → (Lib.numsL (Lib.bytesOf (zs.take len))).getD i 0 = zs.getD i 0 := fun i hi => by
      have hi' : i < zs.length := by omega
      have hw := bounds_u8 (h5 _ (List.getElem_mem hi'))
      have : (Lib.bytesOf (zs.take len)).getD i 0 = UInt8.ofNat (zs[i]).toNat := by
        simp [Lib.bytesOf, List.getD, hi, List.getElem?_eq_getElem hi']
      rw [numsL_getD _ _ (by simp [Lib.bytesOf]; omega), this, List.getD, List.getElem?_eq_getElem hi']
      simp only [Option.getD_some, UInt8.toNat_ofNat']
      omega
    refine ⟨Lib.bytesOf (zs.take len), By.of (by simp [Lib.bytesOf]; omega) h1 h2 (fun h => by cases h) (Lib.BytesIn.of_cells fun i hi => ?_)⟩
    rw [hz i hi]
    exact h4 i (by omega)

theorem strs_eqP (l m : List UInt8) : ((⟨l.toArray⟩ : ByteArray).toList == (⟨m.toArray⟩ : ByteArray).toList) = decide (l = m) := by
  rw [Lib.toList_data, Lib.toList_data, Bool.eq_iff_iff, beq_iff_eq, decide_eq_true_iff]

set_option maxRecDepth 100000 in
set_option maxHeartbeats 32000000 in
theorem walk : Walks := by
  intro a0 len0 cap0 z0 a1 len1 cap1 z1 a2 len2 cap2 z2 w w0 w1 w2 hG
  obtain ⟨tx, hx⟩ := row_by w0
  obtain ⟨tA, hA⟩ := row_by w1
  obtain ⟨tB, hB⟩ := row_by w2
  clear w0 w1 w2
  have hl0 := hx.at.1
  by_cases hbig : 800 < len0
  · have d1 : decide ((800 : Int) < (len0 : Int)) = true := by simp; omega
    clear hx hA hB hl0 hbig
    have con := Pol.lives_any w hG
    have HG := Lib.hid hG
    clear hG
    go_enter Tryz.func4, Tryz.ntmps4
    go_wp2_with fail
    refine con.mono ?_
    rintro e w2 ⟨rfl, hb2⟩
    have con := Pol.lives_any w2 (HG.out.on hb2)
    go_wp2_with fail
    refine con.mono ?_
    rintro e w3 ⟨rfl, hb3⟩
    go_wp2
    go_ret
    exact ⟨rfl, hb2.trans (hb3.mono hb2.size)⟩
  · have d1 : decide ((800 : Int) < (len0 : Int)) = false := by simp; omega
    have hn : len0 ≤ 200000 := by omega
    have HL := Lib.hid (show tx.length ≤ 1300 by omega)
    have con := Pol.lives_any w hG
    have HG := Lib.hid hG
    clear hG hl0 hbig
    go_enter Tryz.func4, Tryz.ntmps4
    go_wp2_with fail
    refine con.mono ?_
    rintro e X1 ⟨rfl, B_1⟩
    clear con
    replace hx := hx.on B_1
    replace hA := hA.on B_1
    replace hB := hB.on B_1
    have con := ParseSources_any a0 len0 cap0 tx X1 hx hn (pieces_short tx HL.out) (HG.out.on B_1)
    have HPI := Lib.hid (fun l h => parse_in tx l HL.out h)
    have HPE := Lib.hid (fun e h => parse_errS tx e h)
    generalize parseS tx = R at *
    clear hx hn
    go_wp2_with fail
    refine con.mono ?_
    rintro e X2 ⟨q, n, c, rfl, hS, hbb⟩
    have B_2 := B_1.trans (hbb.mono B_1.size)
    have hbx : Below X2.heap.size X2 (X2.alloc (.cells #[.slice q n c] 36)) := (Below.refl _ X2).alloc (Nat.le_refl _) _
    have S3 := SX.new hS
    have B_3 := B_2.trans (hbx.mono B_2.size)
    replace hA := (hA.on hbb).on hbx
    replace hB := (hB.on hbb).on hbx
    clear con hbb hbx hS B_1 B_2 d1
    cases R with
    | inl en =>
      have hne := HPE.out en rfl
      have d2 : (en != 0) = true := by simpa using hne
      have con := Pol.Text_any q n c [] _ S3.2 (by simp) (fun c hc => by cases hc) (HG.out.on B_3)
      rw [show textS [] = [110, 111, 110, 101] from rfl] at con
      have e1 := strs_eqP [110, 111, 110, 101] [110, 111, 110, 101]
      rw [decide_eq_true rfl] at e1
      have x0 := S3.c0
      simp only [sE]
      clear hne HPI HPE hA hB S3
      go_wp2_with fail
      refine con.mono ?_
      rintro e X4 ⟨rfl, hbb⟩
      have B_4 := B_3.trans (hbb.mono B_3.size)
      clear con hbb B_3 x0
      go_wp2
      go_ret
      exact ⟨rfl, B_4⟩
    | inr l =>
      obtain ⟨hok, hl32⟩ := HPI.out l rfl
      have HOK := Lib.hid hok
      have HPT := Lib.hid (parse_textS l hok hl32)
      have HTL := Lib.hid (txt_len l hok hl32)
      have HPC := Lib.hid (pieces_text l hok)
      have S3 : SX X2.heap.size q n c l (X2.alloc (.cells #[.slice q n c] 36)) := S3
      simp only [sE]
      clear hok HPI HPE
      have con := Pol.lawOf_any a1 len1 cap1 tA (X2.alloc (.cells #[.slice q n c] 36)) hA (HG.out.on B_3)
      have HOA := Lib.hid (q_okQ (tA.take 300) (Nat.le_trans (List.length_take_le _ _) (by decide)))
      generalize qOf (parseQ 1099511627776 (tA.take 300)) = oA at con HOA
      obtain ⟨⟨⟨sA, gA⟩, ⟨pA, mA⟩⟩, hpA⟩ : ∃ x, partsQ oA = x := ⟨_, rfl⟩
      have HQA := Lib.hid (show orgQ oA = .agg #[.string ⟨sA.toArray⟩, .string ⟨gA.toArray⟩, .int .i64 pA, .int .i64 mA] by unfold orgQ orgV; rw [hpA])
      rw [HQA.out] at con
      clear hA hpA
      go_wp2_with fail
      refine con.mono ?_
      rintro e X4 ⟨rfl, hb⟩
      have B_4 := B_3.trans (hb.mono B_3.size)
      have hX : Below X4.heap.size X4 ((X4.alloc (.cells #[.string ⟨sA.toArray⟩, .string ⟨gA.toArray⟩, .int .i64 pA, .int .i64 mA] 25)).alloc (.cells #[.string ⟨sA.toArray⟩, .string ⟨gA.toArray⟩, .int .i64 pA, .int .i64 mA] 26)) := ((Below.refl _ X4).alloc (Nat.le_refl _) _).alloc (by simp) _
      have QA : OB X4.heap.size #[.string ⟨sA.toArray⟩, .string ⟨gA.toArray⟩, .int .i64 pA, .int .i64 mA] ((X4.alloc (.cells #[.string ⟨sA.toArray⟩, .string ⟨gA.toArray⟩, .int .i64 pA, .int .i64 mA] 25)).alloc (.cells #[.string ⟨sA.toArray⟩, .string ⟨gA.toArray⟩, .int .i64 pA, .int .i64 mA] 26)) := (OB.new X4 _).on ((Below.refl _ _).alloc (Nat.le_refl _) _)
      have B_5 := B_4.trans (hX.mono B_4.size)
      have S5 := (S3.on hb).on hX
      replace hB := (hB.on hb).on hX
      clear con hb hX S3 B_3 B_4
      have con := Pol.lawOf_any a2 len2 cap2 tB ((X4.alloc (.cells #[.string ⟨sA.toArray⟩, .string ⟨gA.toArray⟩, .int .i64 pA, .int .i64 mA] 25)).alloc (.cells #[.string ⟨sA.toArray⟩, .string ⟨gA.toArray⟩, .int .i64 pA, .int .i64 mA] 26)) hB (HG.out.on B_5)
      have HOB := Lib.hid (q_okQ (tB.take 300) (Nat.le_trans (List.length_take_le _ _) (by decide)))
      generalize qOf (parseQ 1099511627776 (tB.take 300)) = oB at con HOB
      obtain ⟨⟨⟨sB, gB⟩, ⟨pB, mB⟩⟩, hpB⟩ : ∃ x, partsQ oB = x := ⟨_, rfl⟩
      have HQB := Lib.hid (show orgQ oB = .agg #[.string ⟨sB.toArray⟩, .string ⟨gB.toArray⟩, .int .i64 pB, .int .i64 mB] by unfold orgQ orgV; rw [hpB])
      rw [HQB.out] at con
      clear hB hpB
      go_wp2_with fail
      refine con.mono ?_
      rintro e X6 ⟨rfl, hb⟩
      have B_6 := B_5.trans (hb.mono B_5.size)
      have hX : Below X6.heap.size X6 ((X6.alloc (.cells #[.string ⟨sB.toArray⟩, .string ⟨gB.toArray⟩, .int .i64 pB, .int .i64 mB] 25)).alloc (.cells #[.string ⟨sB.toArray⟩, .string ⟨gB.toArray⟩, .int .i64 pB, .int .i64 mB] 26)) := ((Below.refl _ X6).alloc (Nat.le_refl _) _).alloc (by simp) _
      have QB : OB X6.heap.size #[.string ⟨sB.toArray⟩, .string ⟨gB.toArray⟩, .int .i64 pB, .int .i64 mB] ((X6.alloc (.cells #[.string ⟨sB.toArray⟩, .string ⟨gB.toArray⟩, .int .i64 pB, .int .i64 mB] 25)).alloc (.cells #[.string ⟨sB.toArray⟩, .string ⟨gB.toArray⟩, .int .i64 pB, .int .i64 mB] 26)) := (OB.new X6 _).on ((Below.refl _ _).alloc (Nat.le_refl _) _)
      have B_7 := B_6.trans (hX.mono B_6.size)
      have S7 := (S5.on hb).on hX
      replace QA := (QA.on hb).on hX
      clear con hb hX S5 B_5 B_6
      have con := Pol.Text_any q n c l _ S7.2 hl32 HOK.out (HG.out.on B_7)
      have x0 := S7.c0
      have HTX := Lib.hid (fun q n c W (h : SrcsIs W (.agg #[.slice q n c]) l) (hg : Gl W) => Pol.Text_any q n c l W h hl32 HOK.out hg)
      have HAL := Lib.hid (fun q n c W (h : SrcsIs W (.agg #[.slice q n c]) l) (hg : Gl W) => Pol.Allows_any q n c l oA oB W h hl32 HOK.out HOA.out HOB.out hg)
      rw [HQA.out, HQB.out] at HAL
      generalize textS l = T at *
      generalize allowsB l oA oB = ab at HAL
      go_wp2_with fail
      refine con.mono ?_
      rintro e X8 ⟨rfl, hb⟩
      have B_8 := B_7.trans (hb.mono B_7.size)
      have S8 := S7.on hb
      replace QA := QA.on hb
      replace QB := QB.on hb
      obtain ⟨cT, Z, hrun, hby, hbel, -⟩ := conv_new X8 T (by have := HTL.out; omega)
      have B_9 := B_8.trans (hbel.mono B_8.size)
      replace S8 := S8.on hbel
      replace QA := QA.on hbel
      replace QB := QB.on hbel
      have con := ParseSources_any _ _ _ T Z hby HTL.out HPC.out (HG.out.on B_9)
      rw [HPT.out] at con
      clear hb hbel x0 S7 B_7 B_8
      go_wp2_with fail
      refine con.mono ?_
      rintro e Xa ⟨qx, nx, cx, rfl, hS, hb⟩
      have hX : Below Xa.heap.size Xa (Xa.alloc (.cells #[.slice qx nx cx] 36)) := (Below.refl _ Xa).alloc (Nat.le_refl _) _
      have Sx := SX.new hS
      have B_a := B_9.trans (hb.mono B_9.size)
      have B_b := B_a.trans (hX.mono B_a.size)
      replace S8 := (S8.on hb).on hX
      replace QA := (QA.on hb).on hX
      replace QB := (QB.on hb).on hX
      simp only [sE, sV] at Sx ⊢
      clear con hb hX hS hrun hby B_9 B_a
      obtain ⟨W, hW⟩ : ∃ Z, (Xa.alloc (.cells #[.slice qx nx cx] 36)).drew = Z := ⟨_, rfl⟩
      have hb : Below (Xa.alloc (.cells #[.slice qx nx cx] 36)).heap.size (Xa.alloc (.cells #[.slice qx nx cx] 36)) W := hW ▸ ⟨rfl, rfl, rfl, Nat.le_refl _, fun _ _ => rfl⟩
      have A := B_b.trans (hb.mono B_b.size)
      replace Sx := Sx.on hb
      replace S8 := S8.on hb
      replace QA := QA.on hb
      replace QB := QB.on hb
      have HW := Lib.hid hW
      clear hW hb B_b
      go_wp2_with fail
      refine pregion_any (fun X => X.cell? ⟨Xa.heap.size, 0, none⟩ = some (.slice qx nx cx) ∧ X.cell? ⟨X2.heap.size, 0, none⟩ = some (.slice q n c) ∧ (X.cell? ⟨X4.heap.size, 0, none⟩ = some (.string ⟨sA.toArray⟩) ∧ X.cell? ⟨X4.heap.size, 1, none⟩ = some (.string ⟨gA.toArray⟩) ∧ X.cell? ⟨X4.heap.size, 2, none⟩ = some (.int .i64 pA) ∧ X.cell? ⟨X4.heap.size, 3, none⟩ = some (.int .i64 mA)) ∧ X.cell? ⟨X6.heap.size, 0, none⟩ = some (.string ⟨sB.toArray⟩) ∧ X.cell? ⟨X6.heap.size, 1, none⟩ = some (.string ⟨gB.toArray⟩) ∧ X.cell? ⟨X6.heap.size, 2, none⟩ = some (.int .i64 pB) ∧ X.cell? ⟨X6.heap.size, 3, none⟩ = some (.int .i64 mB)) (by kernel_rfl) ?_
      rw [HW.out]
      refine wpAnyH_take (i := 0) (v := (.int .i64 0)) rfl (by kernel_rfl) (by kernel_rfl) (by kernel_rfl) (fun _ _ _ h => h) (.inl ⟨by kernel_rfl, ?_⟩) ⟨Sx.c0, S8.c0, ⟨QA.box 0 _ rfl, QA.box 1 _ rfl, QA.box 2 _ rfl, QA.box 3 _ rfl⟩, QB.box 0 _ rfl, QB.box 1 _ rfl, QB.box 2 _ rfl, QB.box 3 _ rfl⟩ ?_
      · rintro w ⟨h1, h2, ⟨h3, h4, h5, h6⟩, h7, h8, h9, h10⟩; go_simp <;> omega
      refine plist #[true, false, false, false, false, false, false, false, false, false, false, false, false, false, false, false, false, false, false, false, false] (by kernel_rfl) ?_
      refine wpAnyH_take (i := 1) (v := (.bool true)) rfl (by kernel_rfl) (by kernel_rfl) (by kernel_rfl) (fun _ _ _ h => h) (.inl ⟨by kernel_rfl, ?_⟩) ⟨Sx.c0, S8.c0, ⟨QA.box 0 _ rfl, QA.box 1 _ rfl, QA.box 2 _ rfl, QA.box 3 _ rfl⟩, QB.box 0 _ rfl, QB.box 1 _ rfl, QB.box 2 _ rfl, QB.box 3 _ rfl⟩ ?_
      · rintro w ⟨h1, h2, ⟨h3, h4, h5, h6⟩, h7, h8, h9, h10⟩; go_simp <;> omega
      refine plist #[true, true, false, false, false, false, false, false, false, false, false, false, false, false, false, false, false, false, false, false, false] (by kernel_rfl) ?_
      refine wpAnyH_take (i := 2) (v := (.bool true)) rfl (by kernel_rfl) (by kernel_rfl) (by kernel_rfl) (fun _ _ _ h => h) (.inl ⟨by kernel_rfl, ?_⟩) ⟨Sx.c0, S8.c0, ⟨QA.box 0 _ rfl, QA.box 1 _ rfl, QA.box 2 _ rfl, QA.box 3 _ rfl⟩, QB.box 0 _ rfl, QB.box 1 _ rfl, QB.box 2 _ rfl, QB.box 3 _ rfl⟩ ?_
      · rintro w ⟨h1, h2, ⟨h3, h4, h5, h6⟩, h7, h8, h9, h10⟩; go_simp <;> omega
      refine plist #[true, true, true, false, false, false, false, false, false, false, false, false, false, false, false, false, false, false, false, false, false] (by kernel_rfl) ?_
      refine wpAnyH_take (i := 3) (v := (.agg #[.slice qx nx cx])) rfl (by kernel_rfl) (by kernel_rfl) (by kernel_rfl) (fun _ _ _ h => h) (.inl ⟨by kernel_rfl, ?_⟩) ⟨Sx.c0, S8.c0, ⟨QA.box 0 _ rfl, QA.box 1 _ rfl, QA.box 2 _ rfl, QA.box 3 _ rfl⟩, QB.box 0 _ rfl, QB.box 1 _ rfl, QB.box 2 _ rfl, QB.box 3 _ rfl⟩ ?_
      · rintro w ⟨h1, h2, ⟨h3, h4, h5, h6⟩, h7, h8, h9, h10⟩; go_simp <;> omega
      refine plist #[true, true, true, true, false, false, false, false, false, false, false, false, false, false, false, false, false, false, false, false, false] (by kernel_rfl) ?_
      refine wpAnyH_take (i := 5) (v := (.agg #[.slice q n c])) rfl (by kernel_rfl) (by kernel_rfl) (by kernel_rfl) (fun _ _ _ h => h) (.inl ⟨by kernel_rfl, ?_⟩) ⟨Sx.c0, S8.c0, ⟨QA.box 0 _ rfl, QA.box 1 _ rfl, QA.box 2 _ rfl, QA.box 3 _ rfl⟩, QB.box 0 _ rfl, QB.box 1 _ rfl, QB.box 2 _ rfl, QB.box 3 _ rfl⟩ ?_
      · rintro w ⟨h1, h2, ⟨h3, h4, h5, h6⟩, h7, h8, h9, h10⟩; go_simp <;> omega
      refine plist #[true, true, true, true, false, true, false, false, false, false, false, false, false, false, false, false, false, false, false, false, false] (by kernel_rfl) ?_
      have con := HTX.out _ _ _ _ Sx.2 (HG.out.on A)
      refine pone 4 (by kernel_rfl) rfl fun K hK => ?_
      go_simp
      refine con.mono ?_
      rintro e Wa ⟨rfl, hb⟩
      have A2 := A.trans (hb.mono A.size)
      clear A
      have A := A2
      clear A2
      replace Sx := Sx.on hb
      replace S8 := S8.on hb
      replace QA := QA.on hb
      replace QB := QB.on hb
      clear con hb 
      refine hK _ _ ⟨Sx.c0, S8.c0, ⟨QA.box 0 _ rfl, QA.box 1 _ rfl, QA.box 2 _ rfl, QA.box 3 _ rfl⟩, QB.box 0 _ rfl, QB.box 1 _ rfl, QB.box 2 _ rfl, QB.box 3 _ rfl⟩ ?_
      clear hK K
      refine plist #[true, true, true, true, true, true, false, false, false, false, false, false, false, false, false, false, false, false, false, false, false] (by kernel_rfl) ?_
      have con := HTX.out _ _ _ _ S8.2 (HG.out.on A)
      refine pone 6 (by kernel_rfl) rfl fun K hK => ?_
      go_simp
      refine con.mono ?_
      rintro e Wb ⟨rfl, hb⟩
      have A2 := A.trans (hb.mono A.size)
      clear A
      have A := A2
      clear A2
      replace Sx := Sx.on hb
      replace S8 := S8.on hb
      replace QA := QA.on hb
      replace QB := QB.on hb
      clear con hb HTX
      refine hK _ _ ⟨Sx.c0, S8.c0, ⟨QA.box 0 _ rfl, QA.box 1 _ rfl, QA.box 2 _ rfl, QA.box 3 _ rfl⟩, QB.box 0 _ rfl, QB.box 1 _ rfl, QB.box 2 _ rfl, QB.box 3 _ rfl⟩ ?_
      clear hK K
      refine plist #[true, true, true, true, true, true, true, false, false, false, false, false, false, false, false, false, false, false, false, false, false] (by kernel_rfl) ?_
      refine wpAnyH_take (i := 7) (v := (.bool true)) rfl (by kernel_rfl) (by kernel_rfl) (by kernel_rfl) (fun _ _ _ h => h) (.inl ⟨by kernel_rfl, ?_⟩) ⟨Sx.c0, S8.c0, ⟨QA.box 0 _ rfl, QA.box 1 _ rfl, QA.box 2 _ rfl, QA.box 3 _ rfl⟩, QB.box 0 _ rfl, QB.box 1 _ rfl, QB.box 2 _ rfl, QB.box 3 _ rfl⟩ ?_
      · rintro w ⟨h1, h2, ⟨h3, h4, h5, h6⟩, h7, h8, h9, h10⟩; go_simp <;> omega
      refine plist #[true, true, true, true, true, true, true, true, false, false, false, false, false, false, false, false, false, false, false, false, false] (by kernel_rfl) ?_
      refine wpAnyH_take (i := 8) (v := (.bool true)) rfl (by kernel_rfl) (by kernel_rfl) (by kernel_rfl) (fun _ _ _ h => h) (.inl ⟨by kernel_rfl, ?_⟩) ⟨Sx.c0, S8.c0, ⟨QA.box 0 _ rfl, QA.box 1 _ rfl, QA.box 2 _ rfl, QA.box 3 _ rfl⟩, QB.box 0 _ rfl, QB.box 1 _ rfl, QB.box 2 _ rfl, QB.box 3 _ rfl⟩ ?_
      · rintro w ⟨h1, h2, ⟨h3, h4, h5, h6⟩, h7, h8, h9, h10⟩; go_simp <;> omega
      refine plist #[true, true, true, true, true, true, true, true, true, false, false, false, false, false, false, false, false, false, false, false, false] (by kernel_rfl) ?_
      refine wpAnyH_take (i := 9) (v := (.bool true)) rfl (by kernel_rfl) (by kernel_rfl) (by kernel_rfl) (fun _ _ _ h => h) (.inl ⟨by kernel_rfl, ?_⟩) ⟨Sx.c0, S8.c0, ⟨QA.box 0 _ rfl, QA.box 1 _ rfl, QA.box 2 _ rfl, QA.box 3 _ rfl⟩, QB.box 0 _ rfl, QB.box 1 _ rfl, QB.box 2 _ rfl, QB.box 3 _ rfl⟩ ?_
      · rintro w ⟨h1, h2, ⟨h3, h4, h5, h6⟩, h7, h8, h9, h10⟩; go_simp <;> omega
      refine plist #[true, true, true, true, true, true, true, true, true, true, false, false, false, false, false, false, false, false, false, false, false] (by kernel_rfl) ?_
      refine wpAnyH_take (i := 10) (v := (.agg #[.slice qx nx cx])) rfl (by kernel_rfl) (by kernel_rfl) (by kernel_rfl) (fun _ _ _ h => h) (.inl ⟨by kernel_rfl, ?_⟩) ⟨Sx.c0, S8.c0, ⟨QA.box 0 _ rfl, QA.box 1 _ rfl, QA.box 2 _ rfl, QA.box 3 _ rfl⟩, QB.box 0 _ rfl, QB.box 1 _ rfl, QB.box 2 _ rfl, QB.box 3 _ rfl⟩ ?_
      · rintro w ⟨h1, h2, ⟨h3, h4, h5, h6⟩, h7, h8, h9, h10⟩; go_simp <;> omega
      refine plist #[true, true, true, true, true, true, true, true, true, true, true, false, false, false, false, false, false, false, false, false, false] (by kernel_rfl) ?_
      refine wpAnyH_take (i := 11) (v := (.agg #[.string ⟨sA.toArray⟩, .string ⟨gA.toArray⟩, .int .i64 pA, .int .i64 mA])) rfl (by kernel_rfl) (by kernel_rfl) (by kernel_rfl) (fun _ _ _ h => h) (.inl ⟨by kernel_rfl, ?_⟩) ⟨Sx.c0, S8.c0, ⟨QA.box 0 _ rfl, QA.box 1 _ rfl, QA.box 2 _ rfl, QA.box 3 _ rfl⟩, QB.box 0 _ rfl, QB.box 1 _ rfl, QB.box 2 _ rfl, QB.box 3 _ rfl⟩ ?_
      · rintro w ⟨h1, h2, ⟨h3, h4, h5, h6⟩, h7, h8, h9, h10⟩; go_simp <;> omega
      refine plist #[true, true, true, true, true, true, true, true, true, true, true, true, false, false, false, false, false, false, false, false, false] (by kernel_rfl) ?_
      refine wpAnyH_take (i := 12) (v := (.agg #[.string ⟨sB.toArray⟩, .string ⟨gB.toArray⟩, .int .i64 pB, .int .i64 mB])) rfl (by kernel_rfl) (by kernel_rfl) (by kernel_rfl) (fun _ _ _ h => h) (.inl ⟨by kernel_rfl, ?_⟩) ⟨Sx.c0, S8.c0, ⟨QA.box 0 _ rfl, QA.box 1 _ rfl, QA.box 2 _ rfl, QA.box 3 _ rfl⟩, QB.box 0 _ rfl, QB.box 1 _ rfl, QB.box 2 _ rfl, QB.box 3 _ rfl⟩ ?_
      · rintro w ⟨h1, h2, ⟨h3, h4, h5, h6⟩, h7, h8, h9, h10⟩; go_simp <;> omega
      refine plist #[true, true, true, true, true, true, true, true, true, true, true, true, true, false, false, false, false, false, false, false, false] (by kernel_rfl) ?_
      refine wpAnyH_take (i := 14) (v := (.agg #[.slice q n c])) rfl (by kernel_rfl) (by kernel_rfl) (by kernel_rfl) (fun _ _ _ h => h) (.inl ⟨by kernel_rfl, ?_⟩) ⟨Sx.c0, S8.c0, ⟨QA.box 0 _ rfl, QA.box 1 _ rfl, QA.box 2 _ rfl, QA.box 3 _ rfl⟩, QB.box 0 _ rfl, QB.box 1 _ rfl, QB.box 2 _ rfl, QB.box 3 _ rfl⟩ ?_
      · rintro w ⟨h1, h2, ⟨h3, h4, h5, h6⟩, h7, h8, h9, h10⟩; go_simp <;> omega
      refine plist #[true, true, true, true, true, true, true, true, true, true, true, true, true, false, true, false, false, false, false, false, false] (by kernel_rfl) ?_
      refine wpAnyH_take (i := 15) (v := (.agg #[.string ⟨sA.toArray⟩, .string ⟨gA.toArray⟩, .int .i64 pA, .int .i64 mA])) rfl (by kernel_rfl) (by kernel_rfl) (by kernel_rfl) (fun _ _ _ h => h) (.inl ⟨by kernel_rfl, ?_⟩) ⟨Sx.c0, S8.c0, ⟨QA.box 0 _ rfl, QA.box 1 _ rfl, QA.box 2 _ rfl, QA.box 3 _ rfl⟩, QB.box 0 _ rfl, QB.box 1 _ rfl, QB.box 2 _ rfl, QB.box 3 _ rfl⟩ ?_
      · rintro w ⟨h1, h2, ⟨h3, h4, h5, h6⟩, h7, h8, h9, h10⟩; go_simp <;> omega
      refine plist #[true, true, true, true, true, true, true, true, true, true, true, true, true, false, true, true, false, false, false, false, false] (by kernel_rfl) ?_
      refine wpAnyH_take (i := 16) (v := (.agg #[.string ⟨sB.toArray⟩, .string ⟨gB.toArray⟩, .int .i64 pB, .int .i64 mB])) rfl (by kernel_rfl) (by kernel_rfl) (by kernel_rfl) (fun _ _ _ h => h) (.inl ⟨by kernel_rfl, ?_⟩) ⟨Sx.c0, S8.c0, ⟨QA.box 0 _ rfl, QA.box 1 _ rfl, QA.box 2 _ rfl, QA.box 3 _ rfl⟩, QB.box 0 _ rfl, QB.box 1 _ rfl, QB.box 2 _ rfl, QB.box 3 _ rfl⟩ ?_
      · rintro w ⟨h1, h2, ⟨h3, h4, h5, h6⟩, h7, h8, h9, h10⟩; go_simp <;> omega
      refine plist #[true, true, true, true, true, true, true, true, true, true, true, true, true, false, true, true, true, false, false, false, false] (by kernel_rfl) ?_
      have con := HAL.out _ _ _ _ Sx.2 (HG.out.on A)
      refine pone 13 (by kernel_rfl) rfl fun K hK => ?_
      go_simp
      refine con.mono ?_
      rintro e Wc ⟨rfl, hb⟩
      have A2 := A.trans (hb.mono A.size)
      clear A
      have A := A2
      clear A2
      replace Sx := Sx.on hb
      replace S8 := S8.on hb
      replace QA := QA.on hb
      replace QB := QB.on hb
      clear con hb 
      refine hK _ _ ⟨Sx.c0, S8.c0, ⟨QA.box 0 _ rfl, QA.box 1 _ rfl, QA.box 2 _ rfl, QA.box 3 _ rfl⟩, QB.box 0 _ rfl, QB.box 1 _ rfl, QB.box 2 _ rfl, QB.box 3 _ rfl⟩ ?_
      clear hK K
      refine plist #[true, true, true, true, true, true, true, true, true, true, true, true, true, true, true, true, true, false, false, false, false] (by kernel_rfl) ?_
      have con := HAL.out _ _ _ _ S8.2 (HG.out.on A)
      refine pone 17 (by kernel_rfl) rfl fun K hK => ?_
      go_simp
      refine con.mono ?_
      rintro e Wd ⟨rfl, hb⟩
      have A2 := A.trans (hb.mono A.size)
      clear A
      have A := A2
      clear A2
      replace Sx := Sx.on hb
      replace S8 := S8.on hb
      replace QA := QA.on hb
      replace QB := QB.on hb
      clear con hb HAL
      refine hK _ _ ⟨Sx.c0, S8.c0, ⟨QA.box 0 _ rfl, QA.box 1 _ rfl, QA.box 2 _ rfl, QA.box 3 _ rfl⟩, QB.box 0 _ rfl, QB.box 1 _ rfl, QB.box 2 _ rfl, QB.box 3 _ rfl⟩ ?_
      clear hK K
      refine plist #[true, true, true, true, true, true, true, true, true, true, true, true, true, true, true, true, true, true, false, false, false] (by kernel_rfl) ?_
      refine wpAnyH_take (i := 18) (v := (.bool true)) rfl (by kernel_rfl) (by kernel_rfl) (by kernel_rfl) (fun _ _ _ h => h) (.inl ⟨by kernel_rfl, ?_⟩) ⟨Sx.c0, S8.c0, ⟨QA.box 0 _ rfl, QA.box 1 _ rfl, QA.box 2 _ rfl, QA.box 3 _ rfl⟩, QB.box 0 _ rfl, QB.box 1 _ rfl, QB.box 2 _ rfl, QB.box 3 _ rfl⟩ ?_
      · rintro w ⟨h1, h2, ⟨h3, h4, h5, h6⟩, h7, h8, h9, h10⟩; go_simp <;> omega
      refine plist #[true, true, true, true, true, true, true, true, true, true, true, true, true, true, true, true, true, true, true, false, false] (by kernel_rfl) ?_
      refine wpAnyH_take (i := 19) (v := (.bool true)) rfl (by kernel_rfl) (by kernel_rfl) (by kernel_rfl) (fun _ _ _ h => h) (.inl ⟨by kernel_rfl, ?_⟩) ⟨Sx.c0, S8.c0, ⟨QA.box 0 _ rfl, QA.box 1 _ rfl, QA.box 2 _ rfl, QA.box 3 _ rfl⟩, QB.box 0 _ rfl, QB.box 1 _ rfl, QB.box 2 _ rfl, QB.box 3 _ rfl⟩ ?_
      · rintro w ⟨h1, h2, ⟨h3, h4, h5, h6⟩, h7, h8, h9, h10⟩; go_simp <;> omega
      refine plist #[true, true, true, true, true, true, true, true, true, true, true, true, true, true, true, true, true, true, true, true, false] (by kernel_rfl) ?_
      refine pone 20 (by kernel_rfl) rfl fun K hK => ?_
      go_simp
      refine hK _ _ ⟨Sx.c0, S8.c0, ⟨QA.box 0 _ rfl, QA.box 1 _ rfl, QA.box 2 _ rfl, QA.box 3 _ rfl⟩, QB.box 0 _ rfl, QB.box 1 _ rfl, QB.box 2 _ rfl, QB.box 3 _ rfl⟩ ?_
      clear hK K
      refine pdone (by kernel_rfl) ?_ _
      go_wp2
      go_ret
      exact ⟨rfl, A⟩

theorem proved : Rows.PolicyBackCardSaid := card walk
end Go.Proofs.YtedglpfdibamdaaGreatDoor.policyBack
