/- BlobSees: the law returns true at whatever input, and writes nothing that was there: its tied card. Conditions: none. -/
import Derived.Test.YtkjkfgmoogbdiaaGreatDoorBaseE
import Derived.Deep.DeepCutAuto
namespace Go.Proofs.YtkjkfgmoogbdiaaGreatDoor.blobSees
open Go.RowKit Go.Shelf Url Org Frm Cls Lbl Prv Arn Brn Blb
attribute [local go_sem] Oper.semAt_some
set_option linter.unusedVariables false

theorem row_by {w : World} {a : Option Addr} {len cap : Nat} {zs : List Int} (h : IsRow .u8 w a len cap zs) : ∃ bs : List UInt8, By w (.slice a len cap) bs := by
  rcases h with ⟨rfl, rfl, rfl, rfl⟩ | ⟨x, rfl, h1, h2, h3, h4, h5⟩
  · exact ⟨[], by_nil w⟩
  · have hz : ∀ i, i < len → (Lib.numsL (Lib.bytesOf (zs.take len))).getD i 0 = zs.getD i 0 := fun i hi => by
      have hi' : i < zs.length := by omega
      have hw := bounds_u8 (h5 _ (List.getElem_mem hi'))
      have : (Lib.bytesOf (zs.take len)).getD i 0 = UInt8.ofNat (zs[i]).toNat := by
        simp [Lib.bytesOf, List.getD, hi, List.getElem?_eq_getElem hi']
      rw [numsL_getD _ _ (by simp [Lib.bytesOf]; omega), this, List.getD, List.getElem?_eq_getElem hi']
      simp only [Option.getD_some, UInt8.toNat_ofNat']
      omega
    refine ⟨Lib.bytesOf (zs.take len), By.of (by simp [Lib.bytesOf]; omega) h1 h2 (fun h => by cases h) (Lib.BytesIn.of_cells fun i hi => ?_)⟩
    rw [hz i hi]
    exact h4 i (by omega)

def oneB (y : Bl) : List (Sl Bl) := [⟨1, some y⟩]
theorem one_L (y : Bl) (h : y.d.length ≤ 300) : tL [] y = oneB y ∧ tH [] y = 1024 ∧ tE [] y = 0 := by
  unfold tL tH tE
  rw [if_neg (by omega), if_neg (by omega), if_neg (by omega)]
  exact ⟨rfl, rfl, rfl⟩
theorem one_get (y : Bl) : Brn.getX (oneB y) 1024 = some y := rfl
theorem one_few (y : Bl) (h : Lbl.Few y.l) : ∀ t ∈ oneB y, ∀ z, t.x = some z → Lbl.Few z.l := by
  intro t ht z hz
  obtain rfl := List.mem_singleton.1 ht
  cases hz
  exact h
theorem open_some (y : Bl) (l : Lab) (f : List (List (List UInt8))) : openE (some y) l f = if flowsBy f y.l l then 0 else 7 := rfl
theorem open_never (y : Bl) (l : Lab) : openE (some y) l [[]] = 0 ∧ openD (some y) l [[]] = y.d := by
  constructor
  · show (if flowsBy [[]] y.l l then (0 : Int) else 7) = 0
    rw [by_never]; rfl
  · show (if flowsBy [[]] y.l l then y.d else []) = y.d
    rw [by_never]; rfl
theorem lab_keep2 {w w' : World} {q1 : Option Addr} {n1 : Nat} {q2 : Option Addr} {n2 : Nat} (h : In2 (w.heap.size ≤ ·) q1 n1 q2 n2) (b : Nat) (hb : b < w.heap.size) : In2 (Els b (.slice none 0 0)) q1 n1 q2 n2 :=
  h.mono fun k hk => ⟨fun e => by have : w.heap.size ≤ k := hk; omega, fun e => by cases e⟩

set_option maxRecDepth 100000 in
set_option maxHeartbeats 32000000 in
theorem walk : Walks := by
  intro a0 len0 cap0 z0 a1 len1 cap1 z1 a2 len2 cap2 z2 a3 len3 cap3 z3 a4 len4 cap4 z4 a5 len5 cap5 z5 w w0 w1 w2 w3 w4 w5 hG
  obtain ⟨tx, hx⟩ := row_by w0
  obtain ⟨ta, ha⟩ := row_by w1
  obtain ⟨tb, hb_⟩ := row_by w2
  obtain ⟨tp, hp⟩ := row_by w3
  obtain ⟨tq, hq⟩ := row_by w4
  obtain ⟨td, hd⟩ := row_by w5
  clear w0 w1 w2 w3 w4 w5
  have con := Blb.lives_any w hG
  have HG := Lib.hid hG
  clear hG
  by_cases h300 : 300 < len5
  · have d0 : decide ((300 : Int) < (len5 : Int)) = true := by simp; omega
    clear hx ha hb_ hp hq hd
    go_enter Tryz.func4, Tryz.ntmps4
    go_wp2_with fail
    refine con.mono ?_
    rintro e X1 ⟨rfl, B_1⟩
    clear con
    have con := Blb.lives_any X1 (HG.out.on B_1)
    go_wp2_with fail
    refine con.mono ?_
    rintro e X2 ⟨rfl, hb⟩
    have B_2 := B_1.trans (hb.mono B_1.size)
    clear con hb B_1
    go_wp2
    go_ret
    exact ⟨rfl, B_2⟩
  have d0 : decide ((300 : Int) < (len5 : Int)) = false := by simp; omega
  go_enter Tryz.func4, Tryz.ntmps4
  go_wp2_with fail
  refine con.mono ?_
  rintro e X1 ⟨rfl, B_1⟩
  replace hx := hx.on B_1
  replace ha := ha.on B_1
  replace hb_ := hb_.on B_1
  replace hp := hp.on B_1
  replace hq := hq.on B_1
  replace hd := hd.on B_1
  clear con
  have con := New_any w.heap.size X1 B_1.size
  go_wp2_with fail
  refine con.mono ?_
  rintro e X2 ⟨p, b, rfl, T2, -, -, hb⟩
  have B_2 := B_1.trans (hb.mono B_1.size)
  replace hx := hx.on hb
  replace ha := ha.on hb
  replace hb_ := hb_.on hb
  replace hp := hp.on hb
  replace hq := hq.on hb
  replace hd := hd.on hb
  clear con hb B_1
  have con := lawOfN_any a0 len0 cap0 tx X2 hx (HG.out.on B_2)
  have HLx := Lib.hid (lok_few (parse_lab (tx.take 400)))
  generalize labV (parseL (tx.take 400)) = lx at con HLx
  clear hx
  go_wp2_with fail
  refine con.mono ?_
  rintro e X3 ⟨q1, n1, c1, q2, n2, c2, rfl, sx, ix, hb⟩
  have B_3 := B_2.trans (hb.mono B_2.size)
  have T3 := T2.on hb
  have i3 := lab_keep2 (w' := X3) ix b T2.ar.bl.lt
  replace ha := ha.on hb
  replace hb_ := hb_.on hb
  replace hp := hp.on hb
  replace hq := hq.on hb
  replace hd := hd.on hb
  clear con hb B_2 T2 ix
  have hdl : td.length ≤ 300 := by have := hd.at.1; omega
  obtain ⟨e1, e2, e3⟩ := one_L ⟨lx, td⟩ hdl
  have con := TPut_any w.heap.size p b (.slice none 0 0) _ [] ⟨q1, n1, c1, q2, n2, c2, a5, len5, cap5⟩ ⟨lx, td⟩ X3 T3 ⟨sx, hd⟩ i3 (fun t ht => by cases ht) B_3.size
  unfold TPutOut at con
  rw [e1, e2, e3] at con
  clear e1 e2 e3 hdl
  go_wp2_with fail
  refine con.mono ?_
  rintro e X4 ⟨rfl, v4, sl4, T4, W4⟩
  have hm := at_mute T3.ar
  replace ha := by_from ha W4.1 hm
  replace hb_ := by_from hb_ W4.1 hm
  replace hp := by_from hp W4.1 hm
  replace hq := by_from hq W4.1 hm
  replace hd := by_from hd W4.1 hm
  have B_4 := B_3.trans (wrote_below T3 W4 (Nat.le_refl _) B_3.size)
  have hfew := one_few ⟨lx, td⟩ HLx.out
  clear con hm W4 T3 B_3 i3 sx HLx
  have con := lawOfN_any a1 len1 cap1 ta X4 ha (HG.out.on B_4)
  have Hla := Lib.hid (lok_few (parse_lab (ta.take 400)))
  generalize labV (parseL (ta.take 400)) = la at con Hla
  clear ha
  go_wp2_with fail
  refine con.mono ?_
  rintro e X5 ⟨qla1, nla1, cla1, qla2, nla2, cla2, rfl, sla, -, hb⟩
  have B_5 := B_4.trans (hb.mono B_4.size)
  replace T4 := T4.on hb
  replace hb_ := hb_.on hb
  replace hp := hp.on hb
  replace hq := hq.on hb
  replace hd := hd.on hb
  clear con hb B_4
  have con := lawOfN_any a2 len2 cap2 tb X5 hb_ (HG.out.on B_5)
  have Hlb := Lib.hid (lok_few (parse_lab (tb.take 400)))
  generalize labV (parseL (tb.take 400)) = lb at con Hlb
  clear hb_
  go_wp2_with fail
  refine con.mono ?_
  rintro e X6 ⟨qlb1, nlb1, clb1, qlb2, nlb2, clb2, rfl, slb, -, hb⟩
  have B_6 := B_5.trans (hb.mono B_5.size)
  replace T4 := T4.on hb
  replace hp := hp.on hb
  replace hq := hq.on hb
  replace hd := hd.on hb
  replace sla := sla.below hb
  clear con hb B_5
  have con := Frm.lawOf_any a3 len3 cap3 tp X6 hp (HG.out.on B_6)
  have Hfp := Lib.hid (Prv.frm_ok (tp.take 400))
  generalize frmV (parseF (tp.take 400)) = fp at con Hfp
  clear hp
  go_wp2_with fail
  refine con.mono ?_
  rintro e X7 ⟨qfp, nfp, cfp, rfl, sfp, hb⟩
  have B_7 := B_6.trans (hb.mono B_6.size)
  replace T4 := T4.on hb
  replace hq := hq.on hb
  replace hd := hd.on hb
  replace sla := sla.below hb
  replace slb := slb.below hb
  clear con hb B_6
  have con := Frm.lawOf_any a4 len4 cap4 tq X7 hq (HG.out.on B_7)
  have Hfq := Lib.hid (Prv.frm_ok (tq.take 400))
  generalize frmV (parseF (tq.take 400)) = fq at con Hfq
  clear hq
  go_wp2_with fail
  refine con.mono ?_
  rintro e X8 ⟨qfq, nfq, cfq, rfl, sfq, hb⟩
  have B_8 := B_7.trans (hb.mono B_7.size)
  replace T4 := T4.on hb
  replace hd := hd.on hb
  replace sla := sla.below hb
  replace slb := slb.below hb
  replace sfp := sfp.below hb
  clear con hb B_7
  obtain ⟨bA, hbA⟩ : ∃ b, X8.heap.size = b := ⟨_, rfl⟩
  obtain ⟨Y1, hY1⟩ : ∃ Y, X8.alloc (.cells #[.slice qla1 nla1 cla1, .slice qla2 nla2 cla2] 37) = Y := ⟨_, rfl⟩
  have Lla : LX bA qla1 nla1 cla1 qla2 nla2 cla2 la Y1 := by rw [← hY1, ← hbA]; exact LX.new sla
  have hb : Below X8.heap.size X8 Y1 := hY1 ▸ below_alloc _
  have zY1 : Y1.heap.size = bA + 1 := by rw [← hY1, World.size_alloc, hbA]
  have HY1 := Lib.hid hY1
  replace slb := slb.below hb
  replace sfp := sfp.below hb
  replace sfq := sfq.below hb
  replace T4 := T4.on hb
  replace hd := hd.on hb
  have B_9 := B_8.trans (hb.mono B_8.size)
  clear hb hY1 B_8 sla
  obtain ⟨Y2, hY2⟩ : ∃ Y, Y1.alloc (.cells #[.slice qlb1 nlb1 clb1, .slice qlb2 nlb2 clb2] 37) = Y := ⟨_, rfl⟩
  have Llb : LX (bA + 1) qlb1 nlb1 clb1 qlb2 nlb2 clb2 lb Y2 := by rw [← hY2, ← zY1]; exact LX.new slb
  have hb : Below Y1.heap.size Y1 Y2 := hY2 ▸ below_alloc _
  have zY2 : Y2.heap.size = (bA + 1) + 1 := by rw [← hY2, World.size_alloc, zY1]
  have HY2 := Lib.hid hY2
  replace Lla := Lla.on hb
  replace sfp := sfp.below hb
  replace sfq := sfq.below hb
  replace T4 := T4.on hb
  replace hd := hd.on hb
  have B_10 := B_9.trans (hb.mono B_9.size)
  clear hb hY2 B_9 slb
  obtain ⟨Y3, hY3⟩ : ∃ Y, Y2.alloc (.cells #[.slice qfp nfp cfp] 35) = Y := ⟨_, rfl⟩
  have Lfp : FX (bA + 1 + 1) qfp nfp cfp fp Y3 := by rw [← hY3, ← zY2]; exact FX.new sfp
  have hb : Below Y2.heap.size Y2 Y3 := hY3 ▸ below_alloc _
  have zY3 : Y3.heap.size = (bA + 1 + 1) + 1 := by rw [← hY3, World.size_alloc, zY2]
  have HY3 := Lib.hid hY3
  replace Lla := Lla.on hb
  replace Llb := Llb.on hb
  replace sfq := sfq.below hb
  replace T4 := T4.on hb
  replace hd := hd.on hb
  have B_11 := B_10.trans (hb.mono B_10.size)
  clear hb hY3 B_10 sfp
  obtain ⟨Y4, hY4⟩ : ∃ Y, Y3.alloc (.cells #[.slice qfq nfq cfq] 35) = Y := ⟨_, rfl⟩
  have Lfq : FX (bA + 1 + 1 + 1) qfq nfq cfq fq Y4 := by rw [← hY4, ← zY3]; exact FX.new sfq
  have hb : Below Y3.heap.size Y3 Y4 := hY4 ▸ below_alloc _
  have zY4 : Y4.heap.size = (bA + 1 + 1 + 1) + 1 := by rw [← hY4, World.size_alloc, zY3]
  have HY4 := Lib.hid hY4
  replace Lla := Lla.on hb
  replace Llb := Llb.on hb
  replace Lfp := Lfp.on hb
  replace T4 := T4.on hb
  replace hd := hd.on hb
  have B_12 := B_11.trans (hb.mono B_11.size)
  clear hb hY4 B_11 sfq
  have HBA := Lib.hid hbA
  clear hbA zY1 zY2 zY3 zY4
  obtain ⟨bi, hbi⟩ : ∃ b, flowsBy fp lx la = b := ⟨_, rfl⟩
  obtain ⟨bj, hbj⟩ : ∃ b, flowsBy fp lx lb = b := ⟨_, rfl⟩
  obtain ⟨bk, hbk⟩ : ∃ b, flowsBy fq lx la = b := ⟨_, rfl⟩
  obtain ⟨bf, hbf⟩ : ∃ b, flowsB la lb = b := ⟨_, rfl⟩
  obtain ⟨bm, hbm⟩ : ∃ b, impB fq fp = b := ⟨_, rfl⟩
  have J1 := Lib.hid (show bi = true → bf = true → bj = true from fun h1 h2 => by rw [← hbj]; exact by_trans fp lx la lb (by rw [hbi]; exact h1) (by_flows fp la lb (by rw [hbf]; exact h2)))
  have J2 := Lib.hid (show bi = true → bm = true → bk = true from fun h1 h2 => by rw [← hbk]; exact by_more fq fp lx la (by rw [hbm]; exact h2) (by rw [hbi]; exact h1))
  have GI := Lib.hid (show ∃ n : Int, (if bi then (0 : Int) else 7) = n ∧ (bi = true ∧ n = 0 ∨ bi = false ∧ n = 7) from ⟨_, rfl, by cases bi <;> simp⟩)
  have GJ := Lib.hid (show ∃ n : Int, (if bj then (0 : Int) else 7) = n ∧ (bj = true ∧ n = 0 ∨ bj = false ∧ n = 7) from ⟨_, rfl, by cases bj <;> simp⟩)
  have GK := Lib.hid (show ∃ n : Int, (if bk then (0 : Int) else 7) = n ∧ (bk = true ∧ n = 0 ∨ bk = false ∧ n = 7) from ⟨_, rfl, by cases bk <;> simp⟩)
  obtain ⟨ni, hni, gi⟩ := GI.out
  obtain ⟨nj, hnj, gj⟩ := GJ.out
  obtain ⟨nk, hnk, gk⟩ := GK.out
  have HGi := Lib.hid gi
  have HGj := Lib.hid gj
  have HGk := Lib.hid gk
  have OI := Lib.hid (show openE (some ⟨lx, td⟩) la fp = ni by rw [open_some, hbi]; exact hni)
  have OJ := Lib.hid (show openE (some ⟨lx, td⟩) lb fp = nj by rw [open_some, hbj]; exact hnj)
  have OK := Lib.hid (show openE (some ⟨lx, td⟩) la fq = nk by rw [open_some, hbk]; exact hnk)
  have HF := Lib.hid hbf
  have HM := Lib.hid hbm
  have HFW := Lib.hid hfew
  clear hbi hbj hbk hbf hbm GI GJ GK gi gj gk hni hnj hnk hfew
  go_upto_region 6 with fail
  rewrite [HY1.out, HY2.out, HY3.out, HY4.out, HBA.out]
  clear HY1 HY2 HY3 HY4 HBA
  have con := TOpen_any w.heap.size p b v4 sl4 (oneB ⟨lx, td⟩) 1024 qla1 nla1 cla1 qla2 nla2 cla2 qfp nfp cfp la fp Y4 T4 ⟨by decide, by decide⟩ Lla.2 Lfp.2 Hla.out Hfp.out.few HFW.out
  unfold OpenOut at con
  rw [one_get, OI.out] at con
  have xla0 := Lla.c0
  have xla1 := Lla.c1
  have xfp0 := Lfp.c0
  go_wp2_with fail
  refine con.mono ?_
  rintro e V0 ⟨qr0, nr0, cr0, rfl, -, hb⟩
  have B_13 := B_12.trans (hb.mono B_12.size)
  clear con xla0 xla1 xfp0
  replace Lla := Lla.on hb
  replace Llb := Llb.on hb
  replace Lfp := Lfp.on hb
  replace Lfq := Lfq.on hb
  replace T4 := T4.on hb
  replace hd := hd.on hb
  clear hb B_12
  have con := TOpen_any w.heap.size p b v4 sl4 (oneB ⟨lx, td⟩) 1024 qlb1 nlb1 clb1 qlb2 nlb2 clb2 qfp nfp cfp lb fp V0 T4 ⟨by decide, by decide⟩ Llb.2 Lfp.2 Hlb.out Hfp.out.few HFW.out
  unfold OpenOut at con
  rw [one_get, OJ.out] at con
  have xlb0 := Llb.c0
  have xlb1 := Llb.c1
  have xfp0 := Lfp.c0
  go_wp2_with fail
  refine con.mono ?_
  rintro e V1 ⟨qr1, nr1, cr1, rfl, -, hb⟩
  have B_14 := B_13.trans (hb.mono B_13.size)
  clear con xlb0 xlb1 xfp0
  replace Lla := Lla.on hb
  replace Llb := Llb.on hb
  replace Lfp := Lfp.on hb
  replace Lfq := Lfq.on hb
  replace T4 := T4.on hb
  replace hd := hd.on hb
  clear hb B_13
  have con := TOpen_any w.heap.size p b v4 sl4 (oneB ⟨lx, td⟩) 1024 qla1 nla1 cla1 qla2 nla2 cla2 qfq nfq cfq la fq V1 T4 ⟨by decide, by decide⟩ Lla.2 Lfq.2 Hla.out Hfq.out.few HFW.out
  unfold OpenOut at con
  rw [one_get, OK.out] at con
  have xla0 := Lla.c0
  have xla1 := Lla.c1
  have xfq0 := Lfq.c0
  go_wp2_with fail
  refine con.mono ?_
  rintro e V2 ⟨qr2, nr2, cr2, rfl, -, hb⟩
  have B_15 := B_14.trans (hb.mono B_14.size)
  clear con xla0 xla1 xfq0
  replace Lla := Lla.on hb
  replace Llb := Llb.on hb
  replace Lfp := Lfp.on hb
  replace Lfq := Lfq.on hb
  replace T4 := T4.on hb
  replace hd := hd.on hb
  clear hb B_14
  obtain ⟨Z, hZ⟩ : ∃ Z, V2.drew = Z := ⟨_, rfl⟩
  have hb : Below V2.heap.size V2 Z := hZ ▸ (Below.refl _ _).drew
  have B_16 := B_15.trans (hb.mono B_15.size)
  replace Lla := Lla.on hb
  replace Llb := Llb.on hb
  replace Lfp := Lfp.on hb
  replace Lfq := Lfq.on hb
  replace T4 := T4.on hb
  replace hd := hd.on hb
  have HZ := Lib.hid hZ
  clear hb hZ B_15
  have xla0 := Lla.c0
  have xla1 := Lla.c1
  have con := Prv.never_obj Z
  go_wp2_with fail
  refine pregion_any (fun X => X.cell? ⟨bA, 0, none⟩ = some (.slice qla1 nla1 cla1) ∧ X.cell? ⟨bA, 1, none⟩ = some (.slice qla2 nla2 cla2)) (by kernel_rfl) ?_
  rw [HZ.out]
  refine wpAnyH_take (i := 0) (v := (.pointer (some ⟨p, 0, none⟩))) rfl (by kernel_rfl) (by kernel_rfl) (by kernel_rfl) (fun _ _ _ h => h) (.inl ⟨by kernel_rfl, ?_⟩) ⟨xla0, xla1⟩ ?_
  · rintro w ⟨h0, h1⟩; go_simp <;> omega
  refine plist #[true, false, false, false, false, false, false, false, false, false] (by kernel_rfl) ?_
  refine wpAnyH_take (i := 1) (v := (.int .i64 1024)) rfl (by kernel_rfl) (by kernel_rfl) (by kernel_rfl) (fun _ _ _ h => h) (.inl ⟨by kernel_rfl, ?_⟩) ⟨xla0, xla1⟩ ?_
  · rintro w ⟨h0, h1⟩; go_simp <;> omega
  refine plist #[true, true, false, false, false, false, false, false, false, false] (by kernel_rfl) ?_
  refine wpAnyH_take (i := 2) (v := (.agg #[.slice qla1 nla1 cla1, .slice qla2 nla2 cla2])) rfl (by kernel_rfl) (by kernel_rfl) (by kernel_rfl) (fun _ _ _ h => h) (.inl ⟨by kernel_rfl, ?_⟩) ⟨xla0, xla1⟩ ?_
  · rintro w ⟨h0, h1⟩; go_simp <;> omega
  refine plist #[true, true, true, false, false, false, false, false, false, false] (by kernel_rfl) ?_
  refine pone 3 (by kernel_rfl) rfl fun K hK => ?_
  go_simp
  refine con.mono ?_
  rintro e V3 ⟨vn, rfl, sn, hb⟩
  clear con
  obtain ⟨qn, nn, cn, rfl⟩ := frm_form sn
  have B_17 := B_16.trans (hb.mono B_16.size)
  replace Lla := Lla.on hb
  replace Llb := Llb.on hb
  replace Lfp := Lfp.on hb
  replace Lfq := Lfq.on hb
  replace T4 := T4.on hb
  replace hd := hd.on hb
  replace xla0 := Lla.c0
  replace xla1 := Lla.c1
  have con := TOpen_any w.heap.size p b v4 sl4 (oneB ⟨lx, td⟩) 1024 qla1 nla1 cla1 qla2 nla2 cla2 qn nn cn la [[]] V3 T4 ⟨by decide, by decide⟩ Lla.2 sn Hla.out (by decide) HFW.out
  unfold OpenOut at con
  rw [one_get, (open_never ⟨lx, td⟩ la).1, (open_never ⟨lx, td⟩ la).2] at con
  clear hb sn B_16
  refine hK _ _ ⟨xla0, xla1⟩ ?_
  clear hK K
  refine plist #[true, true, true, true, false, false, false, false, false, false] (by kernel_rfl) ?_
  refine pone 4 (by kernel_rfl) rfl fun K hK => ?_
  go_simp
  refine con.mono ?_
  rintro e V4 ⟨qz, nz, cz, rfl, hr, hb⟩
  clear con
  have B_18 := B_17.trans (hb.mono B_17.size)
  replace Lla := Lla.on hb
  replace Llb := Llb.on hb
  replace Lfp := Lfp.on hb
  replace Lfq := Lfq.on hb
  replace T4 := T4.on hb
  replace hd := hd.on hb
  replace xla0 := Lla.c0
  replace xla1 := Lla.c1
  have HR := Lib.hid hr
  clear hb hr T4 B_17
  refine hK _ _ ⟨xla0, xla1⟩ ?_
  clear hK K
  refine plist #[true, true, true, true, true, false, false, false, false, false] (by kernel_rfl) ?_
  refine pone 5 (by kernel_rfl) rfl fun K hK => ?_
  go_simp
  refine hK _ _ ⟨xla0, xla1⟩ ?_
  clear hK K
  refine plist #[true, true, true, true, true, true, false, false, false, false] (by kernel_rfl) ?_
  refine wpAnyH_take (i := 6) (v := (.slice qz nz cz)) rfl (by kernel_rfl) (by kernel_rfl) (by kernel_rfl) (fun _ _ _ h => h) (.inl ⟨by kernel_rfl, ?_⟩) ⟨xla0, xla1⟩ ?_
  · rintro w ⟨h0, h1⟩; go_simp <;> omega
  refine plist #[true, true, true, true, true, true, true, false, false, false] (by kernel_rfl) ?_
  refine wpAnyH_take (i := 7) (v := (.int .i64 0)) rfl (by kernel_rfl) (by kernel_rfl) (by kernel_rfl) (fun _ _ _ h => h) (.inl ⟨by kernel_rfl, ?_⟩) ⟨xla0, xla1⟩ ?_
  · rintro w ⟨h0, h1⟩; go_simp <;> omega
  refine plist #[true, true, true, true, true, true, true, true, false, false] (by kernel_rfl) ?_
  refine pone 8 (by kernel_rfl) rfl fun K hK => ?_
  go_simp
  refine hK _ _ ⟨xla0, xla1⟩ ?_
  clear hK K
  refine plist #[true, true, true, true, true, true, true, true, true, false] (by kernel_rfl) ?_
  refine pone 9 (by kernel_rfl) rfl fun K hK => ?_
  go_simp
  refine hK _ _ ⟨xla0, xla1⟩ ?_
  clear hK K
  refine pdone (by kernel_rfl) ?_ _
  have hc1 := Cls.conv_by HR.out.by
  have hc2 := Cls.conv_by hd
  clear xla0 xla1
  go_upto_region 12 with fail
  clear hc1 hc2
  have xla0 := Lla.c0
  have xla1 := Lla.c1
  have xlb0 := Llb.c0
  have xlb1 := Llb.c1
  have xfp0 := Lfp.c0
  have xfq0 := Lfq.c0
  rcases HGi.out with ⟨rfl, rfl⟩ | ⟨rfl, rfl⟩
  · have con := Lbl.Flows_any _ _ la lb V4 Lla.2 Llb.2 Hla.out Hlb.out
    rw [HF.out] at con
    go_wp2_with fail
    refine con.mono ?_
    rintro e V5 ⟨rfl, hb⟩
    have B_99 := B_18.trans (hb.mono B_18.size)
    replace Lfp := Lfp.on hb
    replace Lfq := Lfq.on hb
    clear con hb xla0 xla1 xlb0 xlb1 xfp0 xfq0 Lla Llb
    have xfp0 := Lfp.c0
    have xfq0 := Lfq.c0
    have con := Frm.Implies_any _ _ fq fp V5 Lfq.2 Lfp.2 (Nat.le_trans Hfq.out.few (by decide)) (Nat.le_trans Hfp.out.few (by decide))
    rw [HM.out] at con
    cases bf with
    | true =>
      have e1 : bj = true := by simpa using J1.out
      subst e1
      rcases HGj.out with ⟨-, rfl⟩ | ⟨h, -⟩
      rotate_left
      · cases h
      go_wp2_with fail
      refine con.mono ?_
      rintro e V6 ⟨rfl, hb⟩
      have B_98 := B_99.trans (hb.mono B_99.size)
      clear con hb xfp0 xfq0 Lfp Lfq
      cases bm with
      | true =>
        have e2 : bk = true := by simpa using J2.out
        subst e2
        rcases HGk.out with ⟨-, rfl⟩ | ⟨h, -⟩
        rotate_left
        · cases h
        go_wp2
        go_ret
        exact ⟨rfl, B_98⟩
      | false =>
        go_wp2
        go_ret
        exact ⟨rfl, B_98⟩
    | false =>
      go_wp2_with fail
      refine con.mono ?_
      rintro e V6 ⟨rfl, hb⟩
      have B_98 := B_99.trans (hb.mono B_99.size)
      clear con hb xfp0 xfq0 Lfp Lfq
      cases bm with
      | true =>
        have e2 : bk = true := by simpa using J2.out
        subst e2
        rcases HGk.out with ⟨-, rfl⟩ | ⟨h, -⟩
        rotate_left
        · cases h
        go_wp2
        go_ret
        exact ⟨rfl, B_98⟩
      | false =>
        go_wp2
        go_ret
        exact ⟨rfl, B_98⟩
  · clear Lla Llb Lfp Lfq
    go_wp2
    go_ret
    exact ⟨rfl, B_18⟩
theorem proved : Rows.BlobSeesCardSaid := card walk
end Go.Proofs.YtkjkfgmoogbdiaaGreatDoor.blobSees
