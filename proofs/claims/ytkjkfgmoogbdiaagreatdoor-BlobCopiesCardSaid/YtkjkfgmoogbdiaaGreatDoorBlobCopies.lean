/- BlobCopies: the law returns true at whatever acts, and writes nothing that was there: its tied card. Conditions: none. -/
import Derived.Test.YtkjkfgmoogbdiaaGreatDoorBaseE
import Derived.Deep.DeepCutAuto
namespace Go.Proofs.YtkjkfgmoogbdiaaGreatDoor.blobCopies
open Go.RowKit Go.Shelf Url Org Frm Cls Lbl Prv Arn Brn Blb
attribute [local go_sem] Oper.semAt_some
set_option linter.unusedVariables false

set_option maxRecDepth 100000 in
set_option maxHeartbeats 32000000 in
theorem walk : Walks := by
  intro a0 len0 cap0 a1 len1 cap1 w w0 w1 hG
  obtain ⟨l, hl⟩ := Blb.acts_in w0
  obtain ⟨m, hm⟩ := Blb.acts_in w1
  clear w0 w1
  have con := Blb.lives_any w hG
  have HG := Lib.hid hG
  clear hG
  go_enter Tryz.func5, Tryz.ntmps5
  go_wp2_with fail
  refine con.mono ?_
  rintro e X1 ⟨rfl, B_1⟩
  clear con
  have con := Blb.few_any a0 len0 cap0 l X1 (hl.on B_1)
  go_wp2_with fail
  refine con.mono ?_
  rintro e X2 ⟨r1, rfl, hr1, hb⟩
  have B_2 := B_1.trans (hb.mono B_1.size)
  clear con hb B_1
  cases r1 with
  | false =>
    have con := Blb.lives_any X2 (HG.out.on B_2)
    go_wp2_with fail
    refine con.mono ?_
    rintro e X3 ⟨rfl, hb⟩
    have B_3 := B_2.trans (hb.mono B_2.size)
    clear con hb B_2
    go_wp2
    go_ret
    exact ⟨rfl, B_3⟩
  | true =>
  have con := Blb.few_any a1 len1 cap1 m X2 (hm.on B_2)
  go_wp2_with fail
  refine con.mono ?_
  rintro e X3 ⟨r2, rfl, hr2, hb⟩
  have B_3 := B_2.trans (hb.mono B_2.size)
  clear con hb B_2
  cases r2 with
  | false =>
    have con := Blb.lives_any X3 (HG.out.on B_3)
    go_wp2_with fail
    refine con.mono ?_
    rintro e X4 ⟨rfl, hb⟩
    have B_4 := B_3.trans (hb.mono B_3.size)
    clear con hb B_3
    go_wp2
    go_ret
    exact ⟨rfl, B_4⟩
  | true =>
  have hn1 : len0 ≤ 40 := (by simpa using hr1)
  have hn2 : len1 ≤ 40 := (by simpa using hr2)
  have HL := Lib.hid hl
  have HM := Lib.hid hm
  have con := New_any w.heap.size X3 B_3.size
  obtain ⟨i0, hi0, hz0, hz1, hz2⟩ := info_arn info_hdl
  clear hl hm hr1 hr2 HG
  go_wp2_with fail
  refine con.mono ?_
  rintro e X4 ⟨p, b, rfl, T4, -, -, hb⟩
  have B_4 := B_3.trans (hb.mono B_3.size)
  clear con hb B_3
  go_upto_region 5 with fail
  go_wp2
  go_loopw [6, 41] (fun g i wr => ∃ (k : Nat) (ds : List (List UInt8)) (q : Option Addr) (c : Nat) (v : Value) (sl : List (Sl Bx)), k ≤ len0 ∧ i = .int .i64 k ∧ g = .slice q ds.length c ∧ Hid (Tab w.heap.size p b v sl (fl ds) wr) ∧ Hid (wr.ownsRow w.heap.size 39 1 (.slice q ds.length c) ds.length ((hs ds.length).map (Value.int .i64))) ∧ Hid (All Mt (.slice q ds.length c) wr) ∧ ds.length ≤ 16 ∧ Below w.heap.size w wr) (fun g i _ => len0 - (intOf i).toNat)
  case atStart => exact ⟨0, [], none, 0, _, _, Nat.zero_le _, rfl, rfl, Lib.hid T4, Lib.hid (World.ownsRow_nil _ _ _ _), Lib.hid (fun g hg => by cases hg), by decide, B_4⟩
  case round =>
    obtain ⟨k, ds, q, c, v, sl, hk, rfl, rfl, HT, HR, HA, h16, hB⟩ := hrel
    clear T4 B_4
    by_cases hlt : k < len0
    · have hBn := hB
      obtain ⟨x, hx⟩ : ∃ x, l[k]? = some x := ⟨_, List.getElem?_eq_getElem (by have := HL.out.1; omega)⟩
      obtain ⟨g, o, rfl, hg, hc⟩ := (HL.out.on hBn).2 (by omega)
      obtain ⟨q3, n3, c3, q4, n4, c4, q5, n5, c5, q6, n6, c6, k0, k1, k2, k3, k4, k5, k6, -, -, -, -, y6⟩ := hc k x hx
      obtain ⟨d, hd⟩ : ∃ d, x.data = d := ⟨_, rfl⟩
      rw [hd] at y6
      have bxA := BL.new 32 wr #[.int .i64 x.kind, .int .i64 x.h, .int .i64 x.old, .slice q3 n3 c3, .slice q4 n4 c4, .slice q5 n5 c5, .slice q6 n6 c6]
      have hb1 : Below wr.heap.size wr (wr.alloc (.cells #[.int .i64 x.kind, .int .i64 x.h, .int .i64 x.old, .slice q3 n3 c3, .slice q4 n4 c4, .slice q5 n5 c5, .slice q6 n6 c6] 32)) := blk_alloc _
      obtain ⟨W1, hW1⟩ : ∃ W1, wr.alloc (.cells #[.int .i64 x.kind, .int .i64 x.h, .int .i64 x.old, .slice q3 n3 c3, .slice q4 n4 c4, .slice q5 n5 c5, .slice q6 n6 c6] 32) = W1 := ⟨_, rfl⟩
      rw [hW1] at bxA hb1
      have T1 := HT.out.on hb1
      have yW := y6.on hb1
      have B1 := hB.trans (hb1.mono hB.size)
      have R1 := (Keep.of_below hb1).row HR.out fun k hk => (HR.out.lt k hk).2
      have A1 := HA.out.keep (Keep.of_below hb1) fun k hk => ⟨(HR.out.lt k hk).2, (HR.out.lt k hk).2⟩
      have con := TPut_any w.heap.size p b v sl (fl ds) ⟨none, 0, 0, none, 0, 0, q6, n6, c6⟩ (bB d) W1 T1 ⟨lab_open W1, yW⟩ ⟨fun a h => (by cases h), fun a h => (by cases h)⟩ (fun t ht => by rw [fl_n t ht]; decide) B1.size
      unfold TPutOut at con
      have bc6 := bxA.cell 6 _ rfl
      have HW1 := Lib.hid hW1
      obtain ⟨BX, hBX⟩ : ∃ BX, wr.heap.size = BX := ⟨_, rfl⟩
      rw [hBX] at bc6
      have HBX := Lib.hid hBX
      have HS := Lib.hid (And.intro T1 (And.intro R1 (And.intro A1 B1)))
      clear hx hc y6 yW hd hb1 hW1 T1 R1 A1 B1 bxA hg hBn HT HR HA hB hBX
      go_upto_region 8 with fail
      rewrite [HW1.out, HBX.out]
      clear HW1 HBX
      obtain ⟨e1, he1⟩ : ∃ e, tE (fl ds) (bB d) = e := ⟨_, rfl⟩
      obtain ⟨H1, hH1⟩ : ∃ e, tH (fl ds) (bB d) = e := ⟨_, rfl⟩
      rw [he1, hH1] at con
      go_wp2_with fail
      refine con.mono ?_
      rintro e W2 ⟨rfl, v2, sl2, T2, hw⟩
      obtain ⟨T1, R1, A1, B1⟩ := HS.out
      have R2 := hw.1.row R1 fun k hk => ⟨fun e => BL.ne_row T1.ar.bl (by decide) R1 (e ▸ hk), fun e => rows_ne R1 T1.ar.row (by decide) k hk e⟩
      have A2 := A1.keep hw.1 fun k hk => ⟨⟨fun e => BL.ne_row T1.ar.bl (by decide) R1 (e ▸ hk), fun e => rows_ne R1 T1.ar.row (by decide) k hk e⟩, (R1.lt k hk).2⟩
      have B2 := B1.trans (wrote_below T1 hw (Nat.le_refl _) B1.size)
      clear con bc6 HS T1 R1 A1 B1 hw
      by_cases hlong : 4096 < d.length
      · obtain ⟨f1, f2⟩ := put_long (ds := ds) hlong
        rw [f1] at he1
        rw [f2] at T2
        subst he1
        have HT2 := Lib.hid T2
        have HR2 := Lib.hid R2
        have HA2 := Lib.hid A2
        clear f1 f2 T2 R2 A2 hH1
        go_wp2
        go_roundw
        case rel => exact ⟨k + 1, ds, q, c, v2, sl2, by omega, by go_num, rfl, HT2, HR2, HA2, h16, B2⟩
        case measure => simp [intOf]; omega
      · by_cases hf16 : ds.length < 16
        · obtain ⟨f1, f2, f3⟩ := put_fits (ds := ds) hlong hf16
          rw [f1] at he1
          rw [f2] at hH1
          rw [f3] at T2
          subst he1 hH1
          obtain ⟨n, hn⟩ : ∃ n, ds.length = n := ⟨_, rfl⟩
          rw [hn] at R2 A2 hf16
          have hrow := R2.alloc (.cells #[.int .i64 (hOf 1 n)] 39)
          have hb2 : Below W2.heap.size W2 (W2.alloc (.cells #[.int .i64 (hOf 1 n)] 39)) := blk_alloc _
          have hall := A2.keep (Keep.of_below hb2) fun k hk => ⟨(R2.lt k hk).2, (R2.lt k hk).2⟩
          have HT3 := Lib.hid (T2.on hb2)
          have HB3 := Lib.hid (B2.trans (hb2.mono B2.size))
          have hm2 : (n + 1) * 8 ≤ 140737488355328 := by omega
          have hm3 : n + 1 ≤ maxLen := by unfold maxLen; omega
          have HN := Lib.hid hn
          have hbs := B2.size
          clear f1 f2 f3 T2 R2 A2 hlong hb2 B2
          rw [hn]
          clear hn
          go_upto_region 11 with (
            at_builtin
            go_must (refine wpList_append_all Mt rfl _ _ 81 rfl w.heap.size 39 i0 (.int .i64 0) 1 8 Tryz.underlying81 hi0 hz0 hz1 hz2 rfl (by decide) (.slice q n c) n _ rfl hrow ⟨W2.heap.size, 0, none⟩ 1 1 [.int .i64 (hOf 1 n)] rfl rfl (blk_cells _ _ _) (by simp [Value.oneCell']) hm3 hm2 (by simp; omega) hall (mt_i64 [hOf 1 n]) (mt_i64 [0]) ?_)
            intro v' w1 hown' hgrow hall1 hat
            obtain ⟨q', c', rfl⟩ := Brn.row_sl hown'
            have T3 := HT3.out.keep0 (S := fun k => (Value.slice q n c).ownBlock ≠ some k) (Keep.of_grownBy hgrow (fun r hr h => h hr)) (mt_row hall) (fun e => BL.ne_row HT3.out.tb (by decide) hrow e) (fun e => BL.ne_row HT3.out.ar.bl (by decide) hrow e) (fun k hk e => rows_ne HT3.out.ar.row hrow (by decide) k hk e) fl_l
            have HT4 := Lib.hid T3
            have hown2 : w1.ownsRow w.heap.size 39 1 (.slice q' (n + 1) c') (n + 1) ((hs (n + 1)).map (Value.int .i64)) := by rw [hs_succ, List.map_append]; exact hown'
            have HR4 := Lib.hid hown2
            have HA4 := Lib.hid hall1
            have HB4 := Lib.hid (HB3.out.trans (grownB hgrow HB3.out.size (fun k hk => (hrow.lt k hk).1)))
            clear hown' hown2 hgrow hat hall1 T3 hrow hall)
          go_wp2
          go_roundw
          case rel => exact ⟨k + 1, ds ++ [d], q', c', v2, sl2, by omega, by go_num, by rw [List.length_append, HN.out]; rfl, HT4, by rw [List.length_append, HN.out]; exact HR4, by rw [List.length_append, HN.out]; exact HA4, by rw [List.length_append, HN.out]; simp; omega, HB4.out⟩
          case measure => simp [intOf]; omega
        · obtain ⟨f1, f2⟩ := put_full (ds := ds) hlong hf16
          rw [f1] at he1
          rw [f2] at T2
          subst he1
          have HT2 := Lib.hid T2
          have HR2 := Lib.hid R2
          have HA2 := Lib.hid A2
          clear f1 f2 T2 R2 A2 hH1
          go_wp2
          go_roundw
          case rel => exact ⟨k + 1, ds, q, c, v2, sl2, by omega, by go_num, rfl, HT2, HR2, HA2, h16, B2⟩
          case measure => simp [intOf]; omega
    · obtain rfl : k = len0 := by omega
      clear hk hlt
      obtain ⟨V, rfl⟩ : ∃ V, V = wr := ⟨wr, rfl⟩
      obtain ⟨n, hn⟩ : ∃ n, ds.length = n := ⟨_, rfl⟩
      rw [hn] at HR HA h16
      rw [hn]
      have HN := Lib.hid hn
      have con := TCopy_any w.heap.size p b v sl (fl ds) V HT.out
      clear hn HA
      go_wp2_with fail
      refine con.mono ?_
      rintro e Y1 ⟨pc, bc, vc, slc, rfl, Tc, hb⟩
      have con := TLen_any w.heap.size p b v sl (fl ds) Y1 (HT.out.on hb)
      rw [fl_lenS, HN.out] at con
      go_wp2_with fail
      refine con.mono ?_
      rintro e Y2 ⟨rfl, hb2⟩
      have HTc := Lib.hid (show Tab V.heap.size pc bc vc slc (emp 0 ds) Y2 from Tc.on hb2)
      have C2 := hb.trans (hb2.mono hb.size)
      clear con hb hb2 Tc
      go_upto_region 14 with fail
      go_wp2
      go_loopw [66] (fun i wr => ∃ (k : Nat) (vc : Value) (slc : List (Sl Bx)), k ≤ n ∧ i = .int .i64 k ∧ Hid (Tab V.heap.size pc bc vc slc (emp k ds) wr) ∧ Below V.heap.size V wr) (fun i _ => n - (intOf i).toNat)
      case atStart => exact ⟨0, vc, slc, Nat.zero_le _, rfl, HTc, C2⟩
      case round =>
        obtain ⟨k, vc, slc, hk, rfl, HC, hC⟩ := hrel
        clear HTc C2
        by_cases hlt : k < n
        · obtain ⟨d, hd⟩ : ∃ d, ds[k]? = some d := ⟨_, List.getElem?_eq_getElem (by have := HN.out; omega)⟩
          obtain ⟨g, rfl⟩ : ∃ g, q = some ⟨g, 0, none⟩ := by
            rcases HR.out.2 with ⟨_, h0⟩ | ⟨g, cap, cur, he, _⟩
            · omega
            · cases he; exact ⟨g, rfl⟩
          have ch : wr.cell? ⟨g, k, none⟩ = some (.int .i64 (hOf 1 k)) := by
            rw [World.cell?_of_block (a := ⟨g, k, none⟩) (hC.block g (HR.out.lt g rfl).2), HR.out.cellAt k (by omega), List.getElem?_map, hs_at hlt]
            rfl
          have hn16 : ds.length ≤ 16 := by rw [HN.out]; exact h16
          obtain ⟨H, hH⟩ : ∃ H, hOf 1 k = H := ⟨_, rfl⟩
          have hHb : -9223372036854775808 ≤ H ∧ H ≤ 9223372036854775807 := by rw [← hH]; unfold hOf; omega
          have f1 := gl_get hd hn16
          have f2 := fl_find hd hn16
          have f3 := gl_find hd hn16
          have f4 := gl_drop hd hn16
          rw [hH] at ch f1 f2 f3 f4
          have con := TTake_any V.heap.size pc bc vc slc (emp k ds) H wr HC.out hHb
          rw [f1] at con
          unfold TakeOut at con
          have HF := Lib.hid (And.intro f2 (And.intro f3 f4))
          clear f1 f2 f3 f4 hd hH hn16
          go_wp2_with fail
          refine con.mono ?_
          rintro e Z1 ⟨t0, m0, d0, t1, m1, d1, qx, nx, cx, rfl, -, hr1, hb⟩
          clear con ch
          have hc1 := hC.trans (hb.mono hC.size)
          have tc1 := HC.out.on hb
          have bx := BL.new 44 Z1 #[.slice t0 m0 d0, .slice t1 m1 d1, .slice qx nx cx]
          have hb1 : Below Z1.heap.size Z1 (Z1.alloc (.cells #[.slice t0 m0 d0, .slice t1 m1 d1, .slice qx nx cx] 44)) := blk_alloc _
          obtain ⟨Z2, hZ2⟩ : ∃ Z2, Z1.alloc (.cells #[.slice t0 m0 d0, .slice t1 m1 d1, .slice qx nx cx] 44) = Z2 := ⟨_, rfl⟩
          rw [hZ2] at bx hb1
          obtain ⟨b1, hb1e⟩ : ∃ b1, Z1.heap.size = b1 := ⟨_, rfl⟩
          rw [hb1e] at bx
          have hc2 := hc1.trans (hb1.mono hc1.size)
          have tc2 := tc1.on hb1
          have y1 := hr1.by.on hb1
          have HZ2 := Lib.hid hZ2
          have HB1 := Lib.hid hb1e
          have con := TTake_any w.heap.size p b v sl (fl ds) H Z2 (HT.out.on hc2) hHb
          rw [HF.out.1] at con
          unfold TakeOut at con
          clear hb hc1 tc1 hZ2 hb1e hb1 hr1 HC hC
          go_upto_region 18 with fail
          rewrite [HZ2.out, HB1.out]
          clear HZ2 HB1
          go_wp2_with fail
          refine con.mono ?_
          rintro e Z3 ⟨u0, k0, e0, u1, k1, e1, qy, ny, cy, rfl, -, hr2, hb⟩
          clear con
          have hc3 := hc2.trans (hb.mono hc2.size)
          have tc3 := tc2.on hb
          replace bx := bx.on hb
          replace y1 := y1.on hb
          have by_ := BL.new 44 Z3 #[.slice u0 k0 e0, .slice u1 k1 e1, .slice qy ny cy]
          have hb1 : Below Z3.heap.size Z3 (Z3.alloc (.cells #[.slice u0 k0 e0, .slice u1 k1 e1, .slice qy ny cy] 44)) := blk_alloc _
          obtain ⟨Z4, hZ4⟩ : ∃ Z4, Z3.alloc (.cells #[.slice u0 k0 e0, .slice u1 k1 e1, .slice qy ny cy] 44) = Z4 := ⟨_, rfl⟩
          rw [hZ4] at by_ hb1
          obtain ⟨b2, hb2e⟩ : ∃ b2, Z3.heap.size = b2 := ⟨_, rfl⟩
          rw [hb2e] at by_
          have hc4 := hc3.trans (hb1.mono hc3.size)
          have tc4 := tc3.on hb1
          replace bx := bx.on hb1
          replace y1 := y1.on hb1
          have y2 := hr2.by.on hb1
          have HZ4 := Lib.hid hZ4
          have HB2 := Lib.hid hb2e
          have con := TDrop_any V.heap.size pc bc vc slc (emp k ds) H Z4 tc4 hHb
          unfold DropOut at con
          rw [HF.out.2.1, HF.out.2.2] at con
          have v1 := Cls.conv_by y1
          have v2 := Cls.conv_by y2
          have x1 := bx.cell 2 _ rfl
          have x2 := by_.cell 2 _ rfl
          have HTC4 := Lib.hid tc4
          have HHC4 := Lib.hid hc4
          clear hb hc2 hc3 tc2 tc3 hZ4 hb2e hb1 hr2 bx by_ y1 y2 tc4 hc4 HF
          go_upto_region 19 with fail
          rewrite [HZ4.out, HB2.out]
          clear HZ4 HB2
          go_wp2_with fail
          refine con.mono ?_
          rintro e Z5 ⟨rfl, vd, sld, td, hw⟩
          clear con x1 x2 v1 v2
          have HTd := Lib.hid td
          have hcd := HHC4.out.trans (wrote_below HTC4.out hw (Nat.le_refl _) HHC4.out.size)
          clear td hw HTC4 HHC4
          go_wp2
          go_roundw
          case rel => exact ⟨k + 1, vd, sld, by omega, by go_num, HTd, hcd⟩
          case measure => simp [intOf]; omega
        · obtain rfl : k = n := by omega
          clear hk hlt
          have HFW := Lib.hid (show ∀ t ∈ emp k ds, t.n ≤ 1 + 0 from fun t ht => by
            unfold emp at ht
            rcases List.mem_append.1 ht with h | h
            · rw [(List.mem_replicate.1 h).2]; decide
            · rw [fl_n t h]; decide)
          go_wp2
          go_loopw [106] (fun i wr => ∃ (j : Nat) (vc : Value) (slc : List (Sl Bx)) (blc : List (Sl Bl)), j ≤ len1 ∧ i = .int .i64 j ∧ Hid (Tab V.heap.size pc bc vc slc blc wr) ∧ Hid (∀ t ∈ blc, t.n ≤ 1 + j) ∧ Below V.heap.size V wr) (fun i _ => len1 - (intOf i).toNat)
          case atStart => exact ⟨0, vc, slc, _, Nat.zero_le _, rfl, HC, HFW, hC⟩
          case round =>
            obtain ⟨j, vc, slc, blc, hj, rfl, HC, HFJ, hC⟩ := hrel
            clear HFW
            by_cases hlt : j < len1
            · have hBn : Below w.heap.size w wr := hB.trans (hC.mono hB.size)
              obtain ⟨x, hx⟩ : ∃ x, m[j]? = some x := ⟨_, List.getElem?_eq_getElem (by have := HM.out.1; omega)⟩
              obtain ⟨g, o, rfl, hg, hc⟩ := (HM.out.on hBn).2 (by omega)
              obtain ⟨q3, n3, c3, q4, n4, c4, q5, n5, c5, q6, n6, c6, k0, k1, k2, k3, k4, k5, k6, -, -, -, -, y6⟩ := hc j x hx
              obtain ⟨d, hd⟩ : ∃ d, x.data = d := ⟨_, rfl⟩
              rw [hd] at y6
              have bxA := BL.new 32 wr #[.int .i64 x.kind, .int .i64 x.h, .int .i64 x.old, .slice q3 n3 c3, .slice q4 n4 c4, .slice q5 n5 c5, .slice q6 n6 c6]
              have hb1 : Below wr.heap.size wr (wr.alloc (.cells #[.int .i64 x.kind, .int .i64 x.h, .int .i64 x.old, .slice q3 n3 c3, .slice q4 n4 c4, .slice q5 n5 c5, .slice q6 n6 c6] 32)) := blk_alloc _
              obtain ⟨W1, hW1⟩ : ∃ W1, wr.alloc (.cells #[.int .i64 x.kind, .int .i64 x.h, .int .i64 x.old, .slice q3 n3 c3, .slice q4 n4 c4, .slice q5 n5 c5, .slice q6 n6 c6] 32) = W1 := ⟨_, rfl⟩
              rw [hW1] at bxA hb1
              have T1 := HC.out.on hb1
              have yW := y6.on hb1
              have C1 := hC.trans (hb1.mono hC.size)
              have con := TPut_any V.heap.size pc bc vc slc blc ⟨none, 0, 0, none, 0, 0, q6, n6, c6⟩ (bB d) W1 T1 ⟨lab_open W1, yW⟩ ⟨fun a h => (by cases h), fun a h => (by cases h)⟩ (fun t ht => by have := HFJ.out t ht; omega) C1.size
              unfold TPutOut at con
              have bc6 := bxA.cell 6 _ rfl
              have HW1 := Lib.hid hW1
              obtain ⟨BX, hBX⟩ : ∃ BX, wr.heap.size = BX := ⟨_, rfl⟩
              rw [hBX] at bc6
              have HBX := Lib.hid hBX
              have HS := Lib.hid (And.intro T1 C1)
              have HFJ2 := Lib.hid (show ∀ t ∈ tL blc (bB d), t.n ≤ 1 + (j + 1) from tL_few HFJ.out (bB d))
              clear hx hc y6 yW hd hb1 hW1 T1 C1 bxA hg hBn HC hC hBX HFJ
              obtain ⟨e1, he1⟩ : ∃ e, tE blc (bB d) = e := ⟨_, rfl⟩
              obtain ⟨H1, hH1⟩ : ∃ e, tH blc (bB d) = e := ⟨_, rfl⟩
              rw [he1, hH1] at con
              clear he1 hH1
              go_upto_region 25 with fail
              rewrite [HW1.out, HBX.out]
              clear HW1 HBX
              go_wp2_with fail
              refine con.mono ?_
              rintro e W2 ⟨rfl, v2, sl2, T2, hw⟩
              have HT2 := Lib.hid T2
              have hc2 := HS.out.2.trans (wrote_below HS.out.1 hw (Nat.le_refl _) HS.out.2.size)
              clear con bc6 HS T2 hw
              go_wp2
              go_roundw
              case rel => exact ⟨j + 1, v2, sl2, _, by omega, by go_num, HT2, HFJ2, hc2⟩
              case measure => simp [intOf]; omega
            · obtain rfl : j = len1 := by omega
              clear hj hlt HFJ HC
              go_wp2
              go_loopw [118] (fun i wr => ∃ (j : Nat), j ≤ k ∧ i = .int .i64 j ∧ Below V.heap.size V wr) (fun i _ => k - (intOf i).toNat)
              case atStart => exact ⟨0, Nat.zero_le _, rfl, hC⟩
              case round =>
                obtain ⟨j, hj, rfl, hC⟩ := hrel
                by_cases hlt : j < k
                · obtain ⟨d, hd⟩ : ∃ d, ds[j]? = some d := ⟨_, List.getElem?_eq_getElem (by have := HN.out; omega)⟩
                  obtain ⟨g, rfl⟩ : ∃ g, q = some ⟨g, 0, none⟩ := by
                    rcases HR.out.2 with ⟨_, h0⟩ | ⟨g, cap, cur, he, _⟩
                    · omega
                    · cases he; exact ⟨g, rfl⟩
                  have ch : wr.cell? ⟨g, j, none⟩ = some (.int .i64 (hOf 1 j)) := by
                    rw [World.cell?_of_block (a := ⟨g, j, none⟩) (hC.block g (HR.out.lt g rfl).2), HR.out.cellAt j (by omega), List.getElem?_map, hs_at hlt]
                    rfl
                  have hn16 : ds.length ≤ 16 := by rw [HN.out]; exact h16
                  obtain ⟨H, hH⟩ : ∃ H, hOf 1 j = H := ⟨_, rfl⟩
                  have hHb : -9223372036854775808 ≤ H ∧ H ≤ 9223372036854775807 := by rw [← hH]; unfold hOf; omega
                  have f2 := fl_find hd hn16
                  rw [hH] at ch f2
                  have con := TTake_any w.heap.size p b v sl (fl ds) H wr (HT.out.on hC) hHb
                  rw [f2] at con
                  unfold TakeOut at con
                  clear f2 hd hH hn16
                  go_wp2_with fail
                  refine con.mono ?_
                  rintro e Z1 ⟨t0, m0, d0, t1, m1, d1, qx, nx, cx, rfl, -, -, hb⟩
                  have hc1 := hC.trans (hb.mono hC.size)
                  have HC2 := Lib.hid (hc1.trans ((blk_alloc (w := Z1) (.cells #[.slice t0 m0 d0, .slice t1 m1 d1, .slice qx nx cx] 44)).mono hc1.size))
                  clear con ch hb hc1 hC
                  go_wp2
                  go_roundw
                  case rel => exact ⟨j + 1, by omega, by go_num, HC2.out⟩
                  case measure => simp [intOf]; omega
                · obtain rfl : j = k := by omega
                  clear hj hlt
                  have con := TLen_any w.heap.size p b v sl (fl ds) wr (HT.out.on hC)
                  rw [fl_lenS, HN.out] at con
                  have d1 : ((j : Int) == (j : Int)) = true := by simp
                  have d2 : decide ((j : Int) ≤ (16 : Int)) = true := by simp; omega
                  go_wp2_with fail
                  refine con.mono ?_
                  rintro e Z1 ⟨rfl, hb⟩
                  have hc1 := Lib.hid ((hB.trans (hC.mono hB.size)).trans (hb.mono (hB.trans (hC.mono hB.size)).size))
                  clear con hb hC
                  go_wp2
                  go_ret
                  exact ⟨rfl, hc1.out⟩
theorem proved : Rows.BlobCopiesCardSaid := card walk
end Go.Proofs.YtkjkfgmoogbdiaaGreatDoor.blobCopies
