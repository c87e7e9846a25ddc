/- HeaderBack: the law returns true at whatever input, and writes nothing that was there: its tied card. Conditions: none. -/
import Derived.Test.YtfgjcdjhaihgaaaDoorBaseB
import Derived.Lib.AppendStr
import Derived.Deep.DeepCutAuto
namespace Go.Proofs.YtfgjcdjhaihgaaaDoor.headerBack
open Go.RowKit Go.ChangeShapes Go.WideShapes
open Go.Shelf Url Hdr
attribute [local go_sem] Oper.semAt_some
set_option linter.unusedVariables false

theorem row_by {w : World} {a : Option Addr} {len cap : Nat} {zs : List Int} (h : IsRow .u8 w a len cap zs) : ∃ bs : List UInt8, By w (.slice a len cap) bs := by
  rcases h with ⟨rfl, rfl, rfl, rfl⟩ | ⟨x, rfl, h1, h2, h3, h4, h5⟩
  · exact ⟨[], by_nil w⟩
  · have hz : ∀ i, i < len → (Lib.numsL (Lib.bytesOf (zs.take len))).getD i 0 = zs.getD i 0 := fun i hi => by
      have hi' : i < zs.length := by omega
      have hw := bounds_u8 (h5 _ (List.getElem_mem hi'))
      have : (Lib.bytesOf (zs.take len)).getD i 0 = UInt8.ofNat (zs[i]).toNat := by
        simp [Lib.bytesOf, List.getD, hi, List.getElem?_eq_getElem hi']
      rw [numsL_getD _ _ (by simp [Lib.bytesOf]; omega), this, List.getD, List.getElem?_eq_getElem hi']
      simp only [Option.getD_some, UInt8.toNat_ofNat']
      omega
    refine ⟨Lib.bytesOf (zs.take len), By.of (by simp [Lib.bytesOf]; omega) h1 h2 (fun h => by cases h) (Lib.BytesIn.of_cells fun i hi => ?_)⟩
    rw [hz i hi]
    exact h4 i (by omega)

set_option maxHeartbeats 16000000 in
set_option maxRecDepth 100000 in
theorem walk : Walks := by
  intro a0 len0 cap0 a1 len1 cap1 z1 w w0 w1 hG
  have HGU := Lib.hid hG
  clear hG
  obtain ⟨zs, hZ⟩ := flds_in w0
  obtain ⟨bs, hY⟩ := row_by w1
  have hl0 := hZ.1
  have hl1 := hY.at.1
  clear w0 w1
  by_cases hbig : 70 < len0
  · have d1 : decide ((70 : Int) < (len0 : Int)) = true := by simp; omega
    clear hl0 hl1 hY hZ
    go_enter Tryd.func5, Tryd.ntmps5
    go_wp2_with fail
    refine (lives_any _ (HGU.out.on (by first | exact Below.refl _ _ | assumption))).mono ?_
    rintro e w2 ⟨rfl, hb2⟩
    go_wp2_with fail
    refine (lives_any _ (HGU.out.on (by first | exact Below.refl _ _ | assumption))).mono ?_
    rintro e w3 ⟨rfl, hb3⟩
    go_wp2
    go_ret
    exact ⟨rfl, hb2.trans (hb3.mono hb2.size)⟩
  · have d1 : decide ((70 : Int) < (len0 : Int)) = false := by simp; omega
    by_cases hlong : 500 < len1
    · have d2 : decide ((500 : Int) < (len1 : Int)) = true := by simp; omega
      clear hl0 hl1 hY hZ
      go_enter Tryd.func5, Tryd.ntmps5
      go_wp2_with fail
      refine (lives_any _ (HGU.out.on (by first | exact Below.refl _ _ | assumption))).mono ?_
      rintro e w2 ⟨rfl, hb2⟩
      go_wp2_with fail
      refine (lives_any _ (HGU.out.on (by first | exact Below.refl _ _ | assumption))).mono ?_
      rintro e w3 ⟨rfl, hb3⟩
      go_wp2
      go_ret
      exact ⟨rfl, hb2.trans (hb3.mono hb2.size)⟩
    · have d2 : decide ((500 : Int) < (len1 : Int)) = false := by simp; omega
      have HL1 := Lib.hid (show bs.length ≤ 500 by omega)
      have hn70 : len0 ≤ 70 := by omega
      have HZL := Lib.hid hl0
      clear hl0 hl1 hbig hlong
      go_enter Tryd.func5, Tryd.ntmps5
      go_wp2_with fail
      refine (lives_any _ (HGU.out.on (by first | exact Below.refl _ _ | assumption))).mono ?_
      rintro e w2 ⟨rfl, B2⟩
      replace hY := hY.on B2
      replace hZ := hZ.below B2
      have HY := Lib.hid hY
      have HZ := Lib.hid hZ
      have HB2 := Lib.hid B2
      obtain ⟨i0, hi0, hz0, hz1, hz2⟩ := info_parts info_fld
      clear hY hZ B2
      go_wp2_with fail
      clear d1 d2
      go_loopw [5, 6, 30] (fun v u i wr => ∃ k : Nat, k ≤ len0 ∧ i = .int .i64 k ∧ v = .int .i64 (ofE 0 ((zs.take k).map Prod.snd)) ∧ wr.ownsRow w2.heap.size 56 2 u k (fdV ((zs.take k).map Prod.snd)) ∧ Hid (∀ z ∈ zs.take k, z.2.1.length ≤ 100 ∧ z.2.2.length ≤ 100) ∧ Below w2.heap.size w2 wr) (fun _ _ i _ => len0 - (intOf i).toNat)
      case atStart => exact ⟨0, Nat.zero_le _, rfl, by simp [ofE], World.ownsRow_nil _ _ _ _, Lib.hid (fun z hz => by simp at hz), Below.refl _ _⟩
      case round =>
        obtain ⟨k, hk, rfl, rfl, hrow, HS, hB⟩ := hrel
        have hbs := hB.size
        by_cases hlt : k < len0
        · obtain ⟨⟨⟨⟨q1, n1, c1⟩, ⟨q2, n2, c2⟩⟩, ⟨x, y⟩⟩, hzk⟩ : ∃ z, zs[k]? = some z := ⟨_, List.getElem?_eq_getElem (by have := HZL.out; omega)⟩
          have hZr := HZ.out.below hB
          obtain ⟨g, o, rfl, _, hgl, hc⟩ := hZr.2.1 (by omega)
          obtain ⟨k1, k2⟩ := hc k _ hzk
          obtain ⟨hx, hy⟩ := hZr.2.2 _ (List.mem_of_getElem? hzk)
          simp only [vC] at k1 k2 hx hy
          have hx1 : x.length = n1 := hx.1.at.1
          have hy1 : y.length = n2 := hy.1.at.1
          obtain ⟨q6, c6, rfl⟩ := own_form hrow
          have HXL := Lib.hid hx1
          have HYL := Lib.hid hy1
          clear hZr hc hx1 hy1
          have hbf : Below wr.heap.size wr (wr.alloc (.cells #[.slice q1 n1 c1, .slice q2 n2 c2] 54)) := (Below.refl _ wr).alloc (Nat.le_refl _) _
          by_cases ha : 100 < n1
          · have d1 : decide ((100 : Int) < (n1 : Int)) = true := by simp; omega
            have Bw := (HB2.out.trans (hB.mono HB2.out.size)).trans (hbf.mono (HB2.out.trans (hB.mono HB2.out.size)).size)
            clear hx hy hrow
            go_wp2
            go_ret
            exact ⟨rfl, Bw⟩
          · by_cases hb : 100 < n2
            · have d1 : decide ((100 : Int) < (n1 : Int)) = false := by simp; omega
              have d2 : decide ((100 : Int) < (n2 : Int)) = true := by simp; omega
              have Bw := (HB2.out.trans (hB.mono HB2.out.size)).trans (hbf.mono (HB2.out.trans (hB.mono HB2.out.size)).size)
              clear hx hy hrow
              go_wp2
              go_ret
              exact ⟨rfl, Bw⟩
            · have d1 : decide ((100 : Int) < (n1 : Int)) = false := by simp; omega
              have d2 : decide ((100 : Int) < (n2 : Int)) = false := by simp; omega
              have hxl : x.length ≤ 100 := by have := HXL.out; omega
              have hyl : y.length ≤ 100 := by have := HYL.out; omega
              have kx := conv_str (hx.1.on hbf)
              have ky := conv_str (hy.1.on hbf)
              have hnew := cell_two_new wr (.slice q1 n1 c1) (.slice q2 n2 c2) 54
              have HT := Lib.hid (show zs.take (k + 1) = zs.take k ++ [(((q1, n1, c1), (q2, n2, c2)), (x, y))] by rw [List.take_add_one, hzk]; rfl)
              have HR := Lib.hid (show fdV ((zs.take (k + 1)).map Prod.snd) = fdV ((zs.take k).map Prod.snd) ++ [.string ⟨x.toArray⟩, .string ⟨y.toArray⟩] by rw [HT.out, List.map_append]; exact fdV_snoc _ (x, y))
              have HS2 := Lib.hid (show ∀ z ∈ zs.take (k + 1), z.2.1.length ≤ 100 ∧ z.2.2.length ≤ 100 from fun z hz => by
                rw [HT.out] at hz
                rcases List.mem_append.1 hz with h | h
                · exact HS.out z h
                · rw [List.mem_singleton.1 h]; exact ⟨hxl, hyl⟩)
              have HE := Lib.hid (show ofE 0 ((zs.take (k + 1)).map Prod.snd) = if ofE 0 ((zs.take k).map Prod.snd) = 0 then wrongF (x, y) k else ofE 0 ((zs.take k).map Prod.snd) by
                rw [HT.out, List.map_append]
                have := ofE_snoc ((zs.take k).map Prod.snd) 0 (x, y)
                rw [List.length_map, List.length_take, Nat.min_eq_left (by have := HZL.out; omega), Nat.zero_add] at this
                exact this)
              obtain ⟨W1, hW1⟩ : ∃ Z, (wr.alloc (.cells #[.slice q1 n1 c1, .slice q2 n2 c2] 54)).alloc (.cells #[.string ⟨x.toArray⟩, .string ⟨y.toArray⟩] 56) = Z := ⟨_, rfl⟩
              have hb1 : Below wr.heap.size wr W1 := hW1 ▸ hbf.trans (((Below.refl _ _).alloc (Nat.le_refl _) _).mono hbf.size)
              obtain ⟨rows, hrows⟩ : ∃ r, fdV ((zs.take k).map Prod.snd) = r := ⟨_, rfl⟩
              obtain ⟨E, hE⟩ : ∃ r, ofE 0 ((zs.take k).map Prod.snd) = r := ⟨_, rfl⟩
              rw [hrows] at hrow HR
              rw [hE] at HE
              rw [hE]
              have hrow1 : W1.ownsRow w2.heap.size 56 2 (.slice q6 k c6) k rows := hW1 ▸ (hrow.alloc _).alloc _
              have hk70 : k ≤ 70 := by omega
              have hsz1 : w2.heap.size ≤ W1.heap.size := by have := hb1.size; omega
              have y0 : W1.cell? ⟨wr.heap.size + 1, 0, none⟩ = some (.string ⟨x.toArray⟩) := by
                have := cell_two_new (wr.alloc (.cells #[.slice q1 n1 c1, .slice q2 n2 c2] 54)) (.string ⟨x.toArray⟩) (.string ⟨y.toArray⟩) 56 0 _ rfl
                rw [World.size_alloc] at this
                exact hW1 ▸ this
              have y1 : W1.cell? ⟨wr.heap.size + 1, 1, none⟩ = some (.string ⟨y.toArray⟩) := by
                have := cell_two_new (wr.alloc (.cells #[.slice q1 n1 c1, .slice q2 n2 c2] 54)) (.string ⟨x.toArray⟩) (.string ⟨y.toArray⟩) 56 1 _ rfl
                rw [World.size_alloc] at this
                exact hW1 ▸ this
              have HW1 := Lib.hid hW1
              clear hx hy hrow hzk HS hE hrows hW1 hnew hbf HT
              by_cases h0 : E = 0
              · subst h0
                have con := refWrong_any x y k W1 (by omega) (by omega) (by omega)
                go_wp2_with fail
                rw [HW1.out]
                refine con.mono ?_
                rintro e w5 ⟨rfl, hb⟩
                have hrow5 := (Keep.of_below hb).row hrow1 (fun b h => (hrow1.lt b h).2)
                have hB5 := (hB.trans (hb1.mono hbs)).trans (hb.mono hsz1)
                have hsz5 := hB5.size
                replace y0 := cell_on y0 hb
                replace y1 := cell_on y1 hb
                have HE := Lib.hid (show ofE 0 ((zs.take (k + 1)).map Prod.snd) = wrongF (x, y) k by rw [HE.out]; simp)
                clear con hb hrow1 hb1 hsz1 HW1 k1 k2 kx ky
                go_wp2_with (at_builtin; go_must (refine wpList_append_own_at _ rfl _ _ 30 rfl w2.heap.size 56 i0 (.agg #[.string ⟨#[]⟩, .string ⟨#[]⟩]) 2 32 Tryd.underlying30 hi0 hz0 hz1 hz2 rfl (by decide) _ _ _ rfl (hrow5.alloc _) ⟨w5.heap.size, 0, none⟩ 1 1 [.string ⟨x.toArray⟩, .string ⟨y.toArray⟩] rfl rfl (cell_two_new _ _ _ _) (by simp [Value.oneCell']) (by unfold maxLen; omega) (by omega) (by simp; omega) ?_); intro v7 w7 hown7 hgrow7 _ _)
                have hb7 : Below w2.heap.size w5 w7 := ((Below.refl _ w5).alloc hsz5 _).grown hgrow7 (by simp; omega) (fun b hb => (hrow5.lt b hb).1)
                rw [← HR.out] at hown7
                go_roundw
                case rel => exact ⟨k + 1, by omega, by go_num, by rw [HE.out], hown7, HS2, hB5.trans hb7⟩
                case measure => simp [intOf]; omega
              · have d3 : (E == 0) = false := by simpa using h0
                rw [if_neg h0] at HE
                have hB1 := hB.trans (hb1.mono hbs)
                have HW1' := HW1.out
                obtain rfl := HW1'
                clear HW1
                have cn := cell_two_new ((wr.alloc (.cells #[.slice q1 n1 c1, .slice q2 n2 c2] 54)).alloc (.cells #[.string ⟨x.toArray⟩, .string ⟨y.toArray⟩] 56)) (.string ⟨x.toArray⟩) (.string ⟨y.toArray⟩) 56
                rw [World.size_alloc, World.size_alloc] at cn
                go_wp2_with (at_builtin; go_must (refine wpList_append_own_at _ rfl _ _ 30 rfl w2.heap.size 56 i0 (.agg #[.string ⟨#[]⟩, .string ⟨#[]⟩]) 2 32 Tryd.underlying30 hi0 hz0 hz1 hz2 rfl (by decide) _ _ _ rfl (hrow1.alloc _) ⟨wr.heap.size + 1 + 1, 0, none⟩ 1 1 [.string ⟨x.toArray⟩, .string ⟨y.toArray⟩] rfl rfl cn (by simp [Value.oneCell']) (by unfold maxLen; omega) (by omega) (by simp; omega) ?_); intro v7 w7 hown7 hgrow7 _ _)
                have hb7 : Below w2.heap.size ((wr.alloc (.cells #[.slice q1 n1 c1, .slice q2 n2 c2] 54)).alloc (.cells #[.string ⟨x.toArray⟩, .string ⟨y.toArray⟩] 56)) w7 := ((Below.refl _ ((wr.alloc (.cells #[.slice q1 n1 c1, .slice q2 n2 c2] 54)).alloc (.cells #[.string ⟨x.toArray⟩, .string ⟨y.toArray⟩] 56))).alloc hsz1 _).grown hgrow7 (by simp; omega) (fun b hb => (hrow1.lt b hb).1)
                rw [← HR.out] at hown7
                go_roundw
                case rel => exact ⟨k + 1, by omega, by go_num, by rw [HE.out], hown7, HS2, hB1.trans hb7⟩
                case measure => simp [intOf]; omega
        · obtain rfl : k = len0 := by omega
          have hall : zs.take k = zs := List.take_of_length_le (by have := HZL.out; omega)
          rw [hall] at hrow HS ⊢
          obtain ⟨q6, c6, rfl⟩ := own_form hrow
          have hZr := HZ.out.below hB
          have BW := HB2.out.trans (hB.mono HB2.out.size)
          have hYr := HY.out.on hB
          have con := Of_any a0 k cap0 zs wr (HGU.out.on BW) hZr (by omega) (fun z hz => by have := HS.out z hz; omega)
          have hLN : (zs.map Prod.snd).length = k := by rw [List.length_map]; exact HZL.out
          have HSM := Lib.hid (show ∀ f ∈ zs.map Prod.snd, f.1.length ≤ 100 ∧ f.2.length ≤ 100 from fun f hf => by
            obtain ⟨z, hz, rfl⟩ := List.mem_map.1 hf
            exact HS.out z hz)
          obtain ⟨L, hL⟩ : ∃ l, zs.map Prod.snd = l := ⟨_, rfl⟩
          rw [hL] at con hrow hLN HSM ⊢
          have F : FdIn wr q6 k L := by
            have h' : wr.ownsRow w2.heap.size 56 2 (.slice q6 k c6) L.length (fdV L) := by rw [hLN]; exact hrow
            obtain ⟨q, c, he, _, hf⟩ := fld_open h'
            injection he with e1 e2 e3
            subst e1
            rw [hLN] at hf
            exact hf
          have HLN := Lib.hid hLN
          clear hall hrow HS hZr hL hLN hlt hk HZ HZL HY HB2 hbs hB hi0 hz0 hz1 hz2
          by_cases h0 : ofE 0 L = 0
          · have hok := (of_ok L 0).1 h0
            have hk64 := Lib.hid (show k ≤ 64 by rcases hok.2 with h | h; (rw [← HLN.out, h]; exact Nat.zero_le _); (rw [← HLN.out]; omega))
            rw [h0]
            have HP := Lib.hid (parse_text L bs hok.1 (by rw [HLN.out]; exact hk64.out))
            have HTL := Lib.hid (show (textH L).length ≤ 100000 from Nat.le_trans (text_le 100 L HSM.out) (by rw [HLN.out]; have := hk64.out; omega))
            go_wp2_with fail
            refine con.mono ?_
            rintro e w5 ⟨q, n, c, rfl, hH, hb⟩
            rw [if_pos h0] at hH
            rw [h0]
            have HH0 := Lib.hid h0
            clear h0 hok
            obtain rfl : k = n := by have := hH.len; rw [HLN.out] at this; exact this
            have hbx : Below w5.heap.size w5 (w5.alloc (.cells #[.slice q k c] 26)) := (Below.refl _ w5).alloc (Nat.le_refl _) _
            have H6 := HX.new hH
            have B5 := BW.trans (hb.mono BW.size)
            have B6 := B5.trans (hbx.mono B5.size)
            have hY6 := (hYr.on hb).on hbx
            have F6 := (F.below hb).below hbx
            have conT := Text_any wr.heap.size q k c L (w5.alloc (.cells #[.slice q k c] 26)) H6.2 hk64.out (fun f hf => by have := HSM.out f hf; omega)
            have x0 := H6.c0
            clear con hb hH hYr F BW B5 hbx
            go_wp2_with fail
            refine conT.mono ?_
            rintro e w7 ⟨vt, rfl, hrowt, hbt⟩
            have hY7 := hY6.on hbt
            have hlen7 : (textH L).length + bs.length ≤ 140737488355328 := by have := HTL.out; have := HL1.out; omega
            have hszt := hbt.size
            clear conT x0
            go_wp2_with (at_builtin; go_must (refine wpList_append_by rfl _ _ rfl _ _ _ _ rfl hrowt _ bs rfl hY7 hlen7 hszt ?_); intro v8 w8 hown hgrow)
            have hb8 := hbt.trans (grown_below hrowt hgrow hszt)
            have T8 : By w8 v8 (textH L ++ bs) := By.row (l := textH L ++ bs) (by rw [show (Lib.numsL (textH L ++ bs)).map (Value.int .u8) = byV (textH L ++ bs) from rfl, byV_app]; exact hown)
            have hll : (textH L ++ bs).length ≤ 1048576 := by rw [List.length_append]; have := HTL.out; have := HL1.out; omega
            obtain ⟨q8, c8, rfl, T8'⟩ := T8
            have T8 : By w8 (.slice q8 (textH L ++ bs).length c8) (textH L ++ bs) := ⟨q8, c8, rfl, T8'⟩
            have conP := Parse_any _ _ _ _ _ (HGU.out.on (B6.trans (hb8.mono B6.size))) T8 hll
            rw [HP.out] at conP
            have H8 := H6.on hb8
            have B8 := B6.trans (hb8.mono B6.size)
            have hY8 := hY6.on hb8
            have F8 := F6.below hb8
            clear hown hgrow hrowt hbt hb8 T8 T8' hll hY7 hY6 F6 H6 B6 hlen7 hszt HP HTL
            generalize (textH L ++ bs).length = len8 at *
            go_wp2_with fail
            refine conP.mono ?_
            rintro e w9 ⟨q9, n9, c9, qb, nb, cb, rfl, hH9, hB9, hb⟩
            simp only [pE, pH, pB] at hH9 hB9 ⊢
            obtain rfl : k = n9 := by have := hH9.len; rw [HLN.out] at this; exact this
            have hbx : Below w9.heap.size w9 (w9.alloc (.cells #[.slice q9 k c9] 26)) := (Below.refl _ w9).alloc (Nat.le_refl _) _
            have O := HX.new hH9
            have B9 := B8.trans (hb.mono B8.size)
            have A := B9.trans (hbx.mono B9.size)
            have hYx := (hY8.on hb).on hbx
            have Fx := (F8.below hb).below hbx
            have Hx := (H8.on hb).on hbx
            have Zx := (hB9.below hbx).1
            have con := All_any w8.heap.size q9 k c9 L _ O.2 (by have := hk64.out; omega) (fun f hf => by have := HSM.out f hf; omega)
            have x0 := O.c0
            clear conP hb hH9 hB9 B8 B9 hbx H8 F8 hY8
            simp only [vC] at Zx
            go_wp2_with fail
            refine con.mono ?_
            rintro e wa ⟨gf, lb, RB, rfl, eg, hi, hR, hb⟩
            have A1 := A.trans (hb.mono A.size)
            have con2 := allF_any gf lb L RB wa eg hi hR (by rw [HLN.out]; have := hk64.out; omega) (fun f hf => by have := HSM.out f hf; omega)
            replace Fx := Fx.below hb
            replace Hx := Hx.on hb
            replace hYx := hYx.on hb
            replace Zx := Zx.on hb
            clear con hb x0 A O
            go_wp2_with fail
            refine con2.mono ?_
            rintro e wb ⟨vb, rfl, hrowb, hb⟩
            obtain ⟨qr, cr, rfl, _, Fr⟩ := fld_open hrowb
            rw [HLN.out] at Fr
            rewrite [HLN.out]
            have A2 := A1.trans (hb.mono A1.size)
            replace Fx := Fx.below hb
            replace Hx := Hx.on hb
            replace hYx := hYx.on hb
            replace Zx := Zx.on hb
            have con3 := same_self qr q6 k cr c6 L wb Fr Fx (by have := hk64.out; omega)
            clear con2 hb hrowb hi eg hR A1
            go_wp2_with fail
            refine con3.mono ?_
            rintro e wc ⟨rfl, hb⟩
            have A3 := A2.trans (hb.mono A2.size)
            replace Fx := Fx.below hb
            replace Hx := Hx.on hb
            replace hYx := hYx.on hb
            replace Zx := Zx.on hb
            have kz := conv_str Zx
            have ky := conv_str hYx
            have e1 := strs_eq bs bs
            rw [decide_eq_true rfl] at e1
            have con := All_any wr.heap.size q k c L wc Hx.2 (by have := hk64.out; omega) (fun f hf => by have := HSM.out f hf; omega)
            have x0 := Hx.c0
            clear con3 hb A2 Fr hYx Zx
            go_wp2_with fail
            refine con.mono ?_
            rintro e wd ⟨gf, lb, RB, rfl, eg, hi, hR, hb⟩
            have A4 := A3.trans (hb.mono A3.size)
            have con2 := allF_any gf lb L RB wd eg hi hR (by rw [HLN.out]; have := hk64.out; omega) (fun f hf => by have := HSM.out f hf; omega)
            replace Fx := Fx.below hb
            clear con hb x0 A3 Hx kz ky e1
            go_wp2_with fail
            refine con2.mono ?_
            rintro e we ⟨vb, rfl, hrowb, hb⟩
            obtain ⟨qs, cs, rfl, _, Fr⟩ := fld_open hrowb
            rw [HLN.out] at Fr
            rewrite [HLN.out]
            have A5 := A4.trans (hb.mono A4.size)
            replace Fx := Fx.below hb
            have con3 := same_self qs q6 k cs c6 L we Fr Fx (by have := hk64.out; omega)
            clear con2 hb hrowb hi eg hR A4
            go_wp2_with fail
            refine con3.mono ?_
            rintro e wf ⟨rfl, hb⟩
            have A6 := A5.trans (hb.mono A5.size)
            clear con3 hb A5 Fr Fx
            go_wp2
            go_ret
            exact ⟨rfl, A6⟩
          · obtain ⟨E, hE⟩ : ∃ e, ofE 0 L = e := ⟨_, rfl⟩
            rw [hE]
            have d3 : (E != E) = false := by simp
            have d4 : (E != 0) = true := by rw [hE] at h0; simpa using h0
            have d5 : (E == E) = true := by simp
            have HE := Lib.hid hE
            have H0 := Lib.hid h0
            clear h0 hE F HSM hYr
            go_wp2_with fail
            refine con.mono ?_
            rintro e w5 ⟨q, n, c, rfl, hH, hb⟩
            rw [if_neg H0.out] at hH
            rw [HE.out]
            obtain rfl : 0 = n := hH.len
            have hbx : Below w5.heap.size w5 (w5.alloc (.cells #[.slice q 0 c] 26)) := (Below.refl _ w5).alloc (Nat.le_refl _) _
            have H6 := HX.new hH
            have B5 := BW.trans (hb.mono BW.size)
            have B6 := B5.trans (hbx.mono B5.size)
            have con2 := Len_any wr.heap.size q 0 c _ _ H6.2
            have x0 := H6.c0
            clear con hb hH BW B5 hbx H6
            go_wp2_with fail
            refine con2.mono ?_
            rintro e w7 ⟨rfl, hb⟩
            have B7 := B6.trans (hb.mono B6.size)
            clear con2 hb B6 x0
            go_wp2
            go_ret
            exact ⟨rfl, B7⟩

theorem proved : Rows.HeaderBackCardSaid := card walk
end Go.Proofs.YtfgjcdjhaihgaaaDoor.headerBack
