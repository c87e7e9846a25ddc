/- HeaderTells: the law returns true at whatever input, and writes nothing that was there: its tied card. Conditions: none. -/
import Derived.Test.YtfgjcdjhaihgaaaDoorBaseB
import Derived.Lib.AppendStr
import Derived.Deep.DeepCutAuto
namespace Go.Proofs.YtfgjcdjhaihgaaaDoor.headerTells
open Go.RowKit Go.ChangeShapes Go.WideShapes
open Go.Shelf Url Hdr
attribute [local go_sem] Oper.semAt_some
set_option linter.unusedVariables false

theorem row_by {w : World} {a : Option Addr} {len cap : Nat} {zs : List Int} (h : IsRow .u8 w a len cap zs) : ∃ bs : List UInt8, By w (.slice a len cap) bs := by
  rcases h with ⟨rfl, rfl, rfl, rfl⟩ | ⟨x, rfl, h1, h2, h3, h4, h5⟩
  · exact ⟨[], by_nil w⟩
  · have hz : ∀ i, i < len → (Lib.numsL (Lib.bytesOf (zs.take len))).getD i 0 = zs.getD i 0 := fun i hi => by
      have hi' : i < zs.length := by omega
      have hw := bounds_u8 (h5 _ (List.getElem_mem hi'))
      have : (Lib.bytesOf (zs.take len)).getD i 0 = UInt8.ofNat (zs[i]).toNat := by
        simp [Lib.bytesOf, List.getD, hi, List.getElem?_eq_getElem hi']
      rw [numsL_getD _ _ (by simp [Lib.bytesOf]; omega), this, List.getD, List.getElem?_eq_getElem hi']
      simp only [Option.getD_some, UInt8.toNat_ofNat']
      omega
    refine ⟨Lib.bytesOf (zs.take len), By.of (by simp [Lib.bytesOf]; omega) h1 h2 (fun h => by cases h) (Lib.BytesIn.of_cells fun i hi => ?_)⟩
    rw [hz i hi]
    exact h4 i (by omega)

set_option maxHeartbeats 16000000 in
set_option maxRecDepth 100000 in
theorem walk : Walks := by
  intro a0 len0 cap0 z0 a1 w w0 w1 hG
  have HGU := Lib.hid hG
  clear hG
  obtain ⟨bs, hY⟩ := row_by w0
  obtain ⟨nm, hs⟩ : ∃ l : List UInt8, (⟨l.toArray⟩ : ByteArray) = a1 := ⟨a1.data.toList, by cases a1; simp⟩
  have hsz : a1.size = nm.length := by rw [← hs]; show nm.toArray.size = _; simp
  have hl0 := hY.at.1
  clear w0 w1
  by_cases hbig : 800 < len0
  · have d1 : decide ((800 : Int) < (len0 : Int)) = true := by simp; omega
    clear hl0 hY hs hsz
    go_enter Tryd.func4, Tryd.ntmps4
    go_wp2_with fail
    refine (lives_any _ (HGU.out.on (by first | exact Below.refl _ _ | assumption))).mono ?_
    rintro e w2 ⟨rfl, hb2⟩
    go_wp2_with fail
    refine (lives_any _ (HGU.out.on (by first | exact Below.refl _ _ | assumption))).mono ?_
    rintro e w3 ⟨rfl, hb3⟩
    go_wp2
    go_ret
    exact ⟨rfl, hb2.trans (hb3.mono hb2.size)⟩
  · have d1 : decide ((800 : Int) < (len0 : Int)) = false := by simp; omega
    by_cases hlong : 100 < a1.size
    · have d2 : decide ((100 : Int) < (a1.size : Int)) = true := by simp; omega
      clear hl0 hY hs hsz
      go_enter Tryd.func4, Tryd.ntmps4
      go_wp2_with fail
      refine (lives_any _ (HGU.out.on (by first | exact Below.refl _ _ | assumption))).mono ?_
      rintro e w2 ⟨rfl, hb2⟩
      go_wp2_with fail
      refine (lives_any _ (HGU.out.on (by first | exact Below.refl _ _ | assumption))).mono ?_
      rintro e w3 ⟨rfl, hb3⟩
      go_wp2
      go_ret
      exact ⟨rfl, hb2.trans (hb3.mono hb2.size)⟩
    · have d2 : decide ((100 : Int) < (a1.size : Int)) = false := by simp; omega
      have HL0 := Lib.hid (show bs.length ≤ 800 by omega)
      have HNM := Lib.hid (show nm.length ≤ 100 by omega)
      have HS := Lib.hid hs
      have hp800 : len0 ≤ 1048576 := by omega
      clear hl0 hs hsz hbig hlong
      go_enter Tryd.func4, Tryd.ntmps4
      go_wp2_with fail
      refine (lives_any _ (HGU.out.on (by first | exact Below.refl _ _ | assumption))).mono ?_
      rintro e w2 ⟨rfl, B2⟩
      replace hY := hY.on B2
      have con := Parse_any _ _ _ _ _ (HGU.out.on B2) hY hp800
      have HPB := Lib.hid (parse_bounds bs)
      clear hp800
      go_wp2_with fail
      refine con.mono ?_
      rintro e w4 ⟨q, n, c, q2, n2, c2, rfl, hH, _, hb⟩
      have B4 := B2.trans (hb.mono B2.size)
      replace hY := hY.on hb
      have hb5 : Below w4.heap.size w4 (w4.alloc (.cells #[.slice q n c] 26)) := (Below.refl _ w4).alloc (Nat.le_refl _) _
      have H5 := HX.new hH
      have B5 := B4.trans (hb5.mono B4.size)
      replace hY := hY.on hb5
      have kc := conv_str hY
      have con2 := refParse_any ⟨bs.toArray⟩ (w4.alloc (.cells #[.slice q n c] 26)) (by show bs.toArray.size ≤ _; simp; have := HL0.out; omega)
      rw [show (⟨bs.toArray⟩ : ByteArray).data.toList = bs by simp] at con2
      generalize parseH bs = R at *
      clear con hH hb hb5 B4 B2 d1 d2 hY
      go_wp2_with fail
      refine con2.mono ?_
      intro e w6 ho
      obtain ⟨q6, c6, rfl, F6, _, hb⟩ := parsed_out ho
      have B6 := B5.trans (hb.mono B5.size)
      have H6 := H5.on hb
      have HN := Lib.hid (show (pH R).length = n from H6.2.len)
      have con3 := refValues_any q6 (pH R).length c6 (pH R) nm w6 F6 (by have := HPB.out.2.1; omega) (fun f hf => by obtain ⟨_, h1, h2⟩ := HPB.out.1 f hf; have := HL0.out; omega) (by have := HNM.out; omega)
      have con4 := fun W hH => Get_any w2.heap.size q n c (pH R) nm W hH (by have := HPB.out.2.1; have := HN.out; omega) (fun f hf => by obtain ⟨_, h1, h2⟩ := HPB.out.1 f hf; have := HL0.out; omega) (by have := HNM.out; omega)
      have con5 := fun W hH => Values_any w2.heap.size q n c (pH R) nm W hH (by have := HPB.out.2.1; have := HN.out; omega) (fun f hf => by obtain ⟨_, h1, h2⟩ := HPB.out.1 f hf; have := HL0.out; omega) (by have := HNM.out; omega)
      rw [HS.out] at con3 con4 con5
      have HVL := Lib.hid (show (valuesL (pH R) nm).length ≤ 64 from Nat.le_trans (values_le _ _) HPB.out.2.1)
      have HVS := Lib.hid (show ∀ x ∈ valuesL (pH R) nm, x.length ≤ 140737488355328 from fun x hx => by have := values_small _ _ nm HPB.out.1 x hx; have := HL0.out; omega)
      have x0 := H6.c0
      generalize valuesL (pH R) nm = xs at *
      clear con2 ho kc B5 hb F6 HPB HNM HL0 HS HN H5
      go_wp2_with fail
      refine con3.mono ?_
      rintro e w7 ⟨v7, rfl, hrow7, hb⟩
      obtain ⟨q7, c7, rfl, hxl, _, _, hst7, hbk7⟩ := strs_row hrow7
      have B7 := B6.trans (hb.mono B6.size)
      replace H6 := H6.on hb
      have con := con4 w7 H6.2
      replace x0 := H6.c0
      clear con3 con4 hrow7 hb B6
      go_wp2_with fail
      refine con.mono ?_
      rintro e w8 ⟨q8, n8, c8, rfl, Y8, hb⟩
      have B8 := B7.trans (hb.mono B7.size)
      replace H6 := H6.on hb
      replace x0 := H6.c0
      have hst8 : StrsIn w8 q7 xs.length xs := strs_keep hst7 (Keep.of_below hb) (fun a ha _ => (hbk7 a ha).1)
      have y8 : ∀ k, (convert 22 9 (.slice q8 n8 c8)).run Tryd.prog (w8.drewN k) = .ok (.string ⟨(xs.headD []).toArray⟩) (w8.drewN k) := fun k => conv_str (Y8.on ⟨rfl, rfl, rfl, Nat.le_refl _, fun _ _ => rfl⟩)
      have HST := Lib.hid hst8
      have HBK := Lib.hid (show ∀ a, q7 = some a → 0 < xs.length → a.block < w8.heap.size from fun a ha _ => Nat.lt_of_lt_of_le (hbk7 a ha).1 hb.size)
      have hy8 := Y8.at.1
      clear con hb hst7 hbk7 B7 hst8 hxl Y8
      cases xs with
      | nil =>
        obtain rfl : 0 = n8 := hy8
        simp only [List.isEmpty_nil, Bool.not_true, List.length_nil]
        clear y8
        go_wp2_with fail
        go_quiet (fail)
        have hb : Below w8.heap.size w8 (w8.drewN nq) := ⟨rfl, rfl, rfl, Nat.le_refl _, fun _ _ => rfl⟩
        have B9 := B8.trans (hb.mono B8.size)
        replace H6 := H6.on hb
        have hst9 := strs_keep HST.out (Keep.of_below hb) HBK.out
        have con := con5 _ H6.2
        replace x0 := H6.c0
        clear con5 hb B8 H6
        go_wp2_with fail
        refine con.mono ?_
        rintro e wa ⟨gf, lb, RB, rfl, eg, hi, hR, hb⟩
        have Ba := B9.trans (hb.mono B9.size)
        have hszb := hb.size
        have hsta := strs_keep hst9 (Keep.of_below hb) (fun a ha h0 => HBK.out a ha h0)
        have con2 := texts_any gf lb _ RB wa eg hi hR (by have := HVL.out; omega) HVS.out
        clear con hst9 B9 hb x0
        go_wp2_with fail
        refine con2.mono ?_
        rintro e wb ⟨vb, rfl, hrowb, hb⟩
        have Bb := Ba.trans (hb.mono Ba.size)
        have hstb := strs_keep hsta (Keep.of_below hb) (fun a ha h0 => Nat.lt_of_lt_of_le (HBK.out a ha h0) hszb)
        simp only [List.length_nil] at hrowb hstb
        obtain ⟨qb, cb, rfl, hxl, _, _, hst, _⟩ := strs_row hrowb
        have con3 := Same_any qb q7 0 cb 0 c7 _ _ wb hxl hxl (by have := HVL.out; omega) (by have := HVL.out; omega) hst hstb
        rw [sameL_self] at con3
        clear con2 hsta Ba hb hrowb hst hstb hi eg hR hszb hxl
        go_wp2_with fail
        refine con3.mono ?_
        rintro e wc ⟨rfl, m9, rfl⟩
        have Bc : Below w.heap.size w (wb.drewN m9) := Bb.trans ⟨rfl, rfl, rfl, Nat.le_refl _, fun _ _ => rfl⟩
        clear con3 Bb
        go_wp2
        go_ret
        exact ⟨rfl, Bc⟩
      | cons x r =>
        have e1 := strs_eq x x
        rw [decide_eq_true rfl] at e1
        simp only [List.headD_cons] at y8
        obtain ⟨m, hm⟩ : ∃ m, (x :: r).length = m := ⟨_, rfl⟩
        have hm0 : 0 < m := by rw [← hm]; simp
        have d3 : decide ((0 : Int) < (m : Int)) = true := by simp; omega
        obtain ⟨g7, o7, rfl, hc7⟩ := HST.out (by simp)
        have c70 : w8.cell? ⟨g7, o7, none⟩ = some (.string ⟨x.toArray⟩) := hc7 0 (by simp)
        simp only [List.isEmpty_cons, Bool.not_false]
        rewrite [hm]
        have HM := Lib.hid hm
        clear hc7 hy8 hm
        go_wp2_with fail
        go_quiet (fail)
        have hb : Below w8.heap.size w8 (w8.drewN nq) := ⟨rfl, rfl, rfl, Nat.le_refl _, fun _ _ => rfl⟩
        have B9 := B8.trans (hb.mono B8.size)
        replace H6 := H6.on hb
        have hst9 := strs_keep HST.out (Keep.of_below hb) HBK.out
        have con := con5 _ H6.2
        replace x0 := H6.c0
        clear con5 hb B8 H6
        go_wp2_with fail
        refine con.mono ?_
        rintro e wa ⟨gf, lb, RB, rfl, eg, hi, hR, hb⟩
        have Ba := B9.trans (hb.mono B9.size)
        have hszb := hb.size
        have hsta := strs_keep hst9 (Keep.of_below hb) (fun a ha h0 => HBK.out a ha h0)
        have con2 := texts_any gf lb _ RB wa eg hi hR (by have := HVL.out; omega) HVS.out
        clear con hst9 B9 hb x0
        go_wp2_with fail
        refine con2.mono ?_
        rintro e wb ⟨vb, rfl, hrowb, hb⟩
        have Bb := Ba.trans (hb.mono Ba.size)
        have hstb := strs_keep hsta (Keep.of_below hb) (fun a ha h0 => Nat.lt_of_lt_of_le (HBK.out a ha h0) hszb)
        rw [HM.out] at hrowb hstb
        obtain ⟨qb, cb, rfl, hxl, _, _, hst, _⟩ := strs_row hrowb
        have con3 := Same_any qb (some ⟨g7, o7, none⟩) m cb m c7 _ _ wb hxl hxl (by have := HVL.out; omega) (by have := HVL.out; omega) hst hstb
        rw [sameL_self] at con3
        clear con2 hsta Ba hb hrowb hst hstb hi eg hR hszb hxl
        go_wp2_with fail
        refine con3.mono ?_
        rintro e wc ⟨rfl, m9, rfl⟩
        have Bc : Below w.heap.size w (wb.drewN m9) := Bb.trans ⟨rfl, rfl, rfl, Nat.le_refl _, fun _ _ => rfl⟩
        clear con3 Bb
        go_wp2
        go_ret
        exact ⟨rfl, Bc⟩

theorem proved : Rows.HeaderTellsCardSaid := card walk
end Go.Proofs.YtfgjcdjhaihgaaaDoor.headerTells
