/- The texts that these laws rest on, put together, part 2. Conditions: as each says. -/
import Derived.Test.YtfgjcdjhaihgaaaDoorBaseA
import Derived.Lib.AppendStr
import Derived.Test.YtfgjcdjhaihgaaaDoorCards
import Derived.Test.YtfgjcdjhaihgaaaDoorTie
import Derived.Lib.LaidU8T
import Derived.PinnedBridge
import Derived.ProofKit
import Derived.OpenShut
import Derived.ShutString
import Derived.ChangeOld
import Derived.Below
import Derived.Deep.DeepHandedRow
import Derived.Stop.LaidErr
import Derived.LaidMore
import Derived.Lay
import Derived.ChangeMaps5

namespace Go.Proofs.YtfgjcdjhaihgaaaDoor.Hdr
open Go.RowKit Go.Shelf Url
attribute [local go_sem] Oper.semAt_some
set_option linter.unusedVariables false

theorem lit_eq (s : ByteArray) (l : List UInt8) : (s.toList == l) = decide (s.data.toList = l) := by
  rw [Lib.toList_data, Bool.eq_iff_iff, beq_iff_eq, decide_eq_true_iff]
theorem ba_nil (s : ByteArray) : s.data.toList = [] ↔ s.size = 0 := by
  rw [← ba_len, List.length_eq_zero_iff]
theorem last_13 (x : ByteArray) (h : 0 < x.size) : x.data.toList.getLast? = some (x.data.toList.getD (x.size - 1) 0) := by
  have hl : x.data.toList.length = x.size := rfl
  rw [List.getLast?_eq_getElem?, hl, List.getD, List.getElem?_eq_getElem (by omega)]
  rfl
theorem chop_yes (x : ByteArray) (h : 0 < x.size) (h13 : x.data.toList.getD (x.size - 1) 0 = 13) : chopL x.data.toList = (x.extract 0 (x.size - 1)).data.toList := by
  unfold chopL
  rw [last_13 x h, h13, if_pos rfl, ext_take, List.dropLast_eq_take]
  rfl
theorem chop_no (x : ByteArray) (h : 0 < x.size) (h13 : x.data.toList.getD (x.size - 1) 0 ≠ 13) : chopL x.data.toList = x.data.toList := by
  unfold chopL
  rw [last_13 x h, if_neg (fun e => h13 (Option.some.inj e))]

theorem trim_ba (b : ByteArray) (w : World) (hb : b.size ≤ 1073741824) : Calls Tryd.prog 28 #[.string b] w fun e w' => e = .returned (.string ⟨(trimB b.data.toList).toArray⟩) ∧ w = w' := by
  have := trim_str b.data.toList w hb
  rwa [show (⟨b.data.toList.toArray⟩ : ByteArray) = b by simp] at this
theorem row_below {w w' : World} {base n : Nat} {v : Value} {xs : List Value} (h : w.ownsRow base 56 2 v n xs) (hb : Below w.heap.size w w') : w'.ownsRow base 56 2 v n xs := (Keep.of_below hb).row h (fun b hb => (h.lt b hb).2)
theorem wrong_lt (f : Fld) (n : Nat) (h : wrongF f n = 0) : n < 64 := by
  unfold wrongF at h
  split at h
  · split at h
    · cases h
    · omega
  · cases h

set_option maxRecDepth 100000 in
set_option maxHeartbeats 32000000 in
theorem refParse_any (t : ByteArray) (w : World) (ht : t.size ≤ 1073741824) :
    Calls Tryd.prog 9 #[.string t] w (ParsedOut (parseH t.data.toList) w) := by
  obtain ⟨i0, hi0, hz0, hz1, hz2⟩ := info_parts info_fld
  obtain ⟨R, hR⟩ : ∃ r, parseH t.data.toList = r := ⟨_, rfl⟩
  rw [hR]
  have HR0 := Lib.hid (show R = goH t.data.toList.length [] t.data.toList by rw [← hR]; rfl)
  obtain ⟨W1, hW1⟩ : ∃ W1, w.alloc (.cells #[] 56) = W1 := ⟨_, rfl⟩
  have A1 : Below w.heap.size w W1 := hW1 ▸ (Below.refl _ w).alloc (Nat.le_refl _) _
  have hrow0 : W1.ownsRow w.heap.size 56 2 (.slice (some ⟨w.heap.size, 0, none⟩) 0 0) 0 [] := hW1 ▸ World.ownsRow_made w #[] 0 (Nat.le_refl _) (Nat.zero_le _) rfl
  have HW1 := Lib.hid hW1
  clear hR hW1
  go_enter Tryd.func9, Tryd.ntmps9
  go_wp2
  rw [HW1.out]
  go_loopw [0, 5] (fun s v wr => ∃ (x : ByteArray) (l : List Fld), s = .string x ∧ x.size ≤ t.size ∧ l.length ≤ 64 ∧ wr.ownsRow w.heap.size 56 2 v l.length (fdV l) ∧ Hid (R = goH x.data.toList.length l x.data.toList) ∧ Below w.heap.size w wr) (fun s _ _ => strSz s)
  case atStart => exact ⟨t, [], rfl, Nat.le_refl _, by simp, hrow0, HR0, A1⟩
  case round =>
    obtain ⟨x, l, rfl, hx, hl64, hrow, HR, hB⟩ := hrel
    have hbs := hB.size
    obtain ⟨q5, c5, rfl⟩ := own_form hrow
    clear hrow0 A1 HW1 HR0
    by_cases h0 : x.size = 0
    · have e1 : (x.toList == ([] : List UInt8)) = true := by rw [lit_eq]; exact decide_eq_true ((ba_nil x).2 h0)
      have HF := Lib.hid (show R = .inr (l, []) by rw [HR.out, (ba_nil x).2 h0]; exact goH_nil _ _)
      clear HR h0
      go_wp2
      go_ret3
      rw [HF.out]
      exact ⟨_, rfl, hrow, hB⟩
    · have hne : x.data.toList ≠ [] := fun e => h0 ((ba_nil x).1 e)
      have e1 : (x.toList == ([] : List UInt8)) = false := by rw [lit_eq]; exact decide_eq_false hne
      have HS := Lib.hid (HR.out.trans (goH_step l x.data.toList hne))
      have con := at_str 10 10 (by decide) x wr (by omega)
      have hrl := rest_len x.data.toList hne
      clear HR h0 hne
      go_wp2_with fail
      refine con.mono ?_
      rintro e w2 ⟨y, z, rfl, hy, hz, hb⟩
      have hyl : y.size ≤ x.size := by rw [← ba_len, hy.out]; exact len_ahead 10 _
      have hzl : z.size < x.size := by rw [← ba_len, hz.out]; exact hrl
      have HZ := Lib.hid (show z.data.toList = restL x.data.toList from hz.out)
      have HY := Lib.hid (show lineL x.data.toList = chopL y.data.toList by unfold lineL; rw [hy.out])
      have hrow2 := row_below hrow hb
      have B2 := hB.trans (hb.mono hbs)
      clear con hb hy hz hrl e1 hrow hB hbs
      generalize lineL x.data.toList = LL at *
      generalize restL x.data.toList = ZZ at *
      by_cases hy0 : y.size = 0
      · have e2 : (y.toList == ([] : List UInt8)) = true := by rw [lit_eq]; exact decide_eq_true ((ba_nil y).2 hy0)
        have HL := Lib.hid (show LL = y.data.toList by rw [HY.out, (ba_nil y).2 hy0]; rfl)
        clear HY hy0
        go_upto_region 7 with fail
        clear e2
        by_cases hL0 : y.size = 0
        · have e4 : (y.toList == ([] : List UInt8)) = true := by rw [lit_eq]; exact decide_eq_true ((ba_nil y).2 hL0)
          have HF := Lib.hid (show R = .inr (l, ZZ) by rw [HS.out, HL.out, if_pos ((ba_nil y).2 hL0)])
          have HZE := Lib.hid (ba_of z ZZ HZ.out)
          clear HS HL hL0
          go_wp2
          go_ret3
          rw [HF.out]
          exact ⟨_, by rw [HZE.out]; rfl, hrow2, B2⟩
        · have hne : y.data.toList ≠ [] := fun e => hL0 ((ba_nil y).1 e)
          have e4 : (y.toList == ([] : List UInt8)) = false := by rw [lit_eq]; exact decide_eq_false hne
          have HS2 := Lib.hid (show R = if (58 : UInt8) ∈ y.data.toList then (if wrongF (fieldL y.data.toList) l.length = 0 then goH ZZ.length (l ++ [fieldL y.data.toList]) ZZ else .inl (wrongF (fieldL y.data.toList) l.length)) else .inl 2 by rw [HS.out, HL.out, if_neg hne])
          have con := at_str 58 58 (by decide) y w2 (by omega)
          clear HS HL hL0 hne
          go_wp2_with fail
          refine con.mono ?_
          rintro e w3 ⟨nm, vl, rfl, hnm, hvl, hb⟩
          have hnl : nm.size ≤ t.size := by rw [← ba_len, hnm.out]; exact Nat.le_trans (len_ahead 58 _) (by rw [ba_len]; omega)
          have hvl2 : vl.size ≤ t.size := by rw [← ba_len, hvl.out]; exact Nat.le_trans (len_tail 58 _) (by rw [ba_len]; omega)
          have HFD := Lib.hid (show fieldL y.data.toList = (nm.data.toList, trimB vl.data.toList) by unfold fieldL; rw [hnm.out, hvl.out])
          have hbl : (trimB vl.data.toList).length ≤ t.size := Nat.le_trans (len_trim _) (by rw [ba_len]; exact hvl2)
          have hrow3 := row_below hrow2 hb
          have B3 := B2.trans (hb.mono B2.size)
          have con2 := trim_ba vl w3 (by omega)
          clear con hb hnm hvl hrow2 B2 e4
          rw [HFD.out] at HS2
          clear HFD
          generalize fieldL y.data.toList = F0 at *
          obtain ⟨F1, hF1⟩ : ∃ b, decide ((58 : UInt8) ∈ y.data.toList) = b := ⟨_, rfl⟩
          have HF1 := Lib.hid hF1
          rw [hF1]
          clear hF1
          generalize trimB vl.data.toList = bv at *
          have hnm2 := Lib.hid (ba_of nm nm.data.toList rfl)
          have hal : nm.data.toList.length ≤ t.size := hnl
          generalize nm.data.toList = av at *
          have hnm3 := hnm2.out
          subst hnm3
          clear hnm2 hnl
          go_wp2_with fail
          refine con2.mono ?_
          rintro e w4 ⟨rfl, rfl⟩
          clear con2
          obtain ⟨W4, hW4⟩ : ∃ Z, w3.alloc (.cells #[.string ⟨av.toArray⟩, .string ⟨bv.toArray⟩] 56) = Z := ⟨_, rfl⟩
          have hb : Below w3.heap.size w3 W4 := hW4 ▸ (Below.refl _ w3).alloc (Nat.le_refl _) _
          have g0 : W4.heap[w3.heap.size]? = some (.cells #[.string ⟨av.toArray⟩, .string ⟨bv.toArray⟩] 56) := hW4 ▸ World.alloc_heap_new w3 _
          have hs4 : w3.heap.size < W4.heap.size := by rw [← hW4]; simp
          have x0 : W4.cell? ⟨w3.heap.size, 0, none⟩ = some (.string ⟨av.toArray⟩) := by simp [World.cell?, g0]
          have x1 : W4.cell? ⟨w3.heap.size, 1, none⟩ = some (.string ⟨bv.toArray⟩) := by simp [World.cell?, g0]
          have hrow4 := row_below hrow3 hb
          have B4 := B3.trans (hb.mono B3.size)
          have con := refWrong_any av bv l.length W4 (by omega) (by omega) (by omega)
          have HW4 := Lib.hid hW4
          have HS4 := Lib.hid hs4
          clear hW4 hb hrow3 B3 hs4
          cases F1 with
          | false =>
            have HF := Lib.hid (show R = .inl 2 by rw [HS2.out, if_neg (by simpa using HF1.out)])
            clear con hrow4 HS2 g0 x0 x1
            go_wp2
            rw [HW4.out]
            go_ret3
            rw [HF.out]
            exact ⟨_, rfl, World.ownsRow_nil _ _ _ _, B4⟩
          | true =>
            have HS3 := Lib.hid (show R = if wrongF (av, bv) l.length = 0 then goH ZZ.length (l ++ [(av, bv)]) ZZ else .inl (wrongF (av, bv) l.length) by rw [HS2.out, if_pos (by simpa using HF1.out)])
            have HLT := Lib.hid (wrong_lt (av, bv) l.length)
            generalize wrongF (av, bv) l.length = E at *
            clear HS2
            go_wp2_with fail
            rw [HW4.out]
            go_wp2_with fail
            refine con.mono ?_
            rintro e w5 ⟨rfl, hb⟩
            have g5 := (hb.block _ HS4.out).trans g0
            have x0' : w5.cell? ⟨w3.heap.size, 0, none⟩ = some (.string ⟨av.toArray⟩) := by simp [World.cell?, g5]
            have x1' : w5.cell? ⟨w3.heap.size, 1, none⟩ = some (.string ⟨bv.toArray⟩) := by simp [World.cell?, g5]
            have hrow5 := row_below hrow4 hb
            have B5 := B4.trans (hb.mono B4.size)
            clear con hb g0 g5 x0 x1 hrow4 B4 HW4
            by_cases hE : E = 0
            · have d1 : (E != 0) = false := by rw [hE]; rfl
              have d2 : (E == 0) = true := by rw [hE]; rfl
              have HN := Lib.hid (show R = goH z.data.toList.length (l ++ [(av, bv)]) z.data.toList by rw [HS3.out, if_pos hE, HZ.out])
              have hlt64 := HLT.out hE
              have hb5s := B5.size
              clear HS3 HLT hE
              go_wp2_with (at_builtin; go_must (refine wpList_append_own_at _ rfl _ _ 30 rfl w.heap.size 56 i0 (.agg #[.string ⟨#[]⟩, .string ⟨#[]⟩]) 2 32 Tryd.underlying30 hi0 hz0 hz1 hz2 rfl (by decide) _ _ _ rfl (hrow5.alloc _) ⟨w5.heap.size, 0, none⟩ 1 1 [.string ⟨av.toArray⟩, .string ⟨bv.toArray⟩] rfl rfl (cell_two_new _ _ _ _) (by simp [Value.oneCell']) (by unfold maxLen; omega) (by omega) (by simp; omega) ?_); intro v7 w7 hown7 hgrow7 _ _)
              have hb7 : Below w.heap.size w5 w7 := ((Below.refl _ w5).alloc hb5s _).grown hgrow7 (by simp; omega) (fun b hb => (hrow5.lt b hb).1)
              go_roundw
              case rel => exact ⟨z, l ++ [(av, bv)], rfl, by omega, by simp; omega, by rw [List.length_append, fdV_snoc]; exact hown7, HN, B5.trans hb7⟩
              case measure => simp [strSz]; omega
            · have d2 : (E == 0) = false := beq_eq_false_iff_ne.2 hE
              have d1 : (E != 0) = true := by unfold bne; rw [d2]; rfl
              have HF := Lib.hid (show R = .inl E by rw [HS3.out, if_neg hE])
              clear HS3 HLT hE hrow5
              go_wp2
              go_ret3
              rw [HF.out]
              exact ⟨_, rfl, World.ownsRow_nil _ _ _ _, B5⟩
      · have e2 : (y.toList == ([] : List UInt8)) = false := by rw [lit_eq]; exact decide_eq_false (fun e => hy0 ((ba_nil y).1 e))
        have hyp : 0 < y.size := by omega
        have hyb : y.size ≤ 1099511627775 := by omega
        have hlt : y.size - 1 < y.size := by omega
        have hg := ba_get y (y.size - 1) hlt
        by_cases h13 : y.data.toList.getD (y.size - 1) 0 = 13
        · have e3 : (((y[y.size - 1]'hlt).toNat : Int) == 13) = true := by rw [hg, h13]; rfl
          have HL0 := Lib.hid (show LL = (y.extract 0 (y.size - 1)).data.toList by rw [HY.out, chop_yes y hyp h13])
          have hLl0 : (y.extract 0 (y.size - 1)).size ≤ x.size := by rw [← ba_len, ext_take, List.length_take, ba_len]; omega
          clear HY hy0 hg h13
          go_upto_region 7 with fail
          clear e2 e3
          generalize y.extract 0 (y.size - 1) = L at *
          have HL := Lib.hid HL0.out
          clear HL0 hyp hyb hlt hyl
          replace hyl := hLl0
          clear hLl0
          by_cases hL0 : L.size = 0
          · have e4 : (L.toList == ([] : List UInt8)) = true := by rw [lit_eq]; exact decide_eq_true ((ba_nil L).2 hL0)
            have HF := Lib.hid (show R = .inr (l, ZZ) by rw [HS.out, HL.out, if_pos ((ba_nil L).2 hL0)])
            have HZE := Lib.hid (ba_of z ZZ HZ.out)
            clear HS HL hL0
            go_wp2
            go_ret3
            rw [HF.out]
            exact ⟨_, by rw [HZE.out]; rfl, hrow2, B2⟩
          · have hne : L.data.toList ≠ [] := fun e => hL0 ((ba_nil L).1 e)
            have e4 : (L.toList == ([] : List UInt8)) = false := by rw [lit_eq]; exact decide_eq_false hne
            have HS2 := Lib.hid (show R = if (58 : UInt8) ∈ L.data.toList then (if wrongF (fieldL L.data.toList) l.length = 0 then goH ZZ.length (l ++ [fieldL L.data.toList]) ZZ else .inl (wrongF (fieldL L.data.toList) l.length)) else .inl 2 by rw [HS.out, HL.out, if_neg hne])
            have con := at_str 58 58 (by decide) L w2 (by omega)
            clear HS HL hL0 hne
            go_wp2_with fail
            refine con.mono ?_
            rintro e w3 ⟨nm, vl, rfl, hnm, hvl, hb⟩
            have hnl : nm.size ≤ t.size := by rw [← ba_len, hnm.out]; exact Nat.le_trans (len_ahead 58 _) (by rw [ba_len]; omega)
            have hvl2 : vl.size ≤ t.size := by rw [← ba_len, hvl.out]; exact Nat.le_trans (len_tail 58 _) (by rw [ba_len]; omega)
            have HFD := Lib.hid (show fieldL L.data.toList = (nm.data.toList, trimB vl.data.toList) by unfold fieldL; rw [hnm.out, hvl.out])
            have hbl : (trimB vl.data.toList).length ≤ t.size := Nat.le_trans (len_trim _) (by rw [ba_len]; exact hvl2)
            have hrow3 := row_below hrow2 hb
            have B3 := B2.trans (hb.mono B2.size)
            have con2 := trim_ba vl w3 (by omega)
            clear con hb hnm hvl hrow2 B2 e4
            rw [HFD.out] at HS2
            clear HFD
            generalize fieldL L.data.toList = F0 at *
            obtain ⟨F1, hF1⟩ : ∃ b, decide ((58 : UInt8) ∈ L.data.toList) = b := ⟨_, rfl⟩
            have HF1 := Lib.hid hF1
            rw [hF1]
            clear hF1
            generalize trimB vl.data.toList = bv at *
            have hnm2 := Lib.hid (ba_of nm nm.data.toList rfl)
            have hal : nm.data.toList.length ≤ t.size := hnl
            generalize nm.data.toList = av at *
            have hnm3 := hnm2.out
            subst hnm3
            clear hnm2 hnl
            go_wp2_with fail
            refine con2.mono ?_
            rintro e w4 ⟨rfl, rfl⟩
            clear con2
            obtain ⟨W4, hW4⟩ : ∃ Z, w3.alloc (.cells #[.string ⟨av.toArray⟩, .string ⟨bv.toArray⟩] 56) = Z := ⟨_, rfl⟩
            have hb : Below w3.heap.size w3 W4 := hW4 ▸ (Below.refl _ w3).alloc (Nat.le_refl _) _
            have g0 : W4.heap[w3.heap.size]? = some (.cells #[.string ⟨av.toArray⟩, .string ⟨bv.toArray⟩] 56) := hW4 ▸ World.alloc_heap_new w3 _
            have hs4 : w3.heap.size < W4.heap.size := by rw [← hW4]; simp
            have x0 : W4.cell? ⟨w3.heap.size, 0, none⟩ = some (.string ⟨av.toArray⟩) := by simp [World.cell?, g0]
            have x1 : W4.cell? ⟨w3.heap.size, 1, none⟩ = some (.string ⟨bv.toArray⟩) := by simp [World.cell?, g0]
            have hrow4 := row_below hrow3 hb
            have B4 := B3.trans (hb.mono B3.size)
            have con := refWrong_any av bv l.length W4 (by omega) (by omega) (by omega)
            have HW4 := Lib.hid hW4
            have HS4 := Lib.hid hs4
            clear hW4 hb hrow3 B3 hs4
            cases F1 with
            | false =>
              have HF := Lib.hid (show R = .inl 2 by rw [HS2.out, if_neg (by simpa using HF1.out)])
              clear con hrow4 HS2 g0 x0 x1
              go_wp2
              rw [HW4.out]
              go_ret3
              rw [HF.out]
              exact ⟨_, rfl, World.ownsRow_nil _ _ _ _, B4⟩
            | true =>
              have HS3 := Lib.hid (show R = if wrongF (av, bv) l.length = 0 then goH ZZ.length (l ++ [(av, bv)]) ZZ else .inl (wrongF (av, bv) l.length) by rw [HS2.out, if_pos (by simpa using HF1.out)])
              have HLT := Lib.hid (wrong_lt (av, bv) l.length)
              generalize wrongF (av, bv) l.length = E at *
              clear HS2
              go_wp2_with fail
              rw [HW4.out]
              go_wp2_with fail
              refine con.mono ?_
              rintro e w5 ⟨rfl, hb⟩
              have g5 := (hb.block _ HS4.out).trans g0
              have x0' : w5.cell? ⟨w3.heap.size, 0, none⟩ = some (.string ⟨av.toArray⟩) := by simp [World.cell?, g5]
              have x1' : w5.cell? ⟨w3.heap.size, 1, none⟩ = some (.string ⟨bv.toArray⟩) := by simp [World.cell?, g5]
              have hrow5 := row_below hrow4 hb
              have B5 := B4.trans (hb.mono B4.size)
              clear con hb g0 g5 x0 x1 hrow4 B4 HW4
              by_cases hE : E = 0
              · have d1 : (E != 0) = false := by rw [hE]; rfl
                have d2 : (E == 0) = true := by rw [hE]; rfl
                have HN := Lib.hid (show R = goH z.data.toList.length (l ++ [(av, bv)]) z.data.toList by rw [HS3.out, if_pos hE, HZ.out])
                have hlt64 := HLT.out hE
                have hb5s := B5.size
                clear HS3 HLT hE
                go_wp2_with (at_builtin; go_must (refine wpList_append_own_at _ rfl _ _ 30 rfl w.heap.size 56 i0 (.agg #[.string ⟨#[]⟩, .string ⟨#[]⟩]) 2 32 Tryd.underlying30 hi0 hz0 hz1 hz2 rfl (by decide) _ _ _ rfl (hrow5.alloc _) ⟨w5.heap.size, 0, none⟩ 1 1 [.string ⟨av.toArray⟩, .string ⟨bv.toArray⟩] rfl rfl (cell_two_new _ _ _ _) (by simp [Value.oneCell']) (by unfold maxLen; omega) (by omega) (by simp; omega) ?_); intro v7 w7 hown7 hgrow7 _ _)
                have hb7 : Below w.heap.size w5 w7 := ((Below.refl _ w5).alloc hb5s _).grown hgrow7 (by simp; omega) (fun b hb => (hrow5.lt b hb).1)
                go_roundw
                case rel => exact ⟨z, l ++ [(av, bv)], rfl, by omega, by simp; omega, by rw [List.length_append, fdV_snoc]; exact hown7, HN, B5.trans hb7⟩
                case measure => simp [strSz]; omega
              · have d2 : (E == 0) = false := beq_eq_false_iff_ne.2 hE
                have d1 : (E != 0) = true := by unfold bne; rw [d2]; rfl
                have HF := Lib.hid (show R = .inl E by rw [HS3.out, if_neg hE])
                clear HS3 HLT hE hrow5
                go_wp2
                go_ret3
                rw [HF.out]
                exact ⟨_, rfl, World.ownsRow_nil _ _ _ _, B5⟩
        · have e3 : (((y[y.size - 1]'hlt).toNat : Int) == 13) = false := by
            rw [hg, beq_eq_false_iff_ne]
            exact fun e => h13 (UInt8.toNat_inj.1 (by have h : (13 : UInt8).toNat = 13 := rfl; omega))
          have HL := Lib.hid (show LL = y.data.toList by rw [HY.out, chop_no y hyp h13])
          clear HY hy0 hg h13
          go_upto_region 7 with fail
          clear e2 e3 hyp hyb hlt
          by_cases hL0 : y.size = 0
          · have e4 : (y.toList == ([] : List UInt8)) = true := by rw [lit_eq]; exact decide_eq_true ((ba_nil y).2 hL0)
            have HF := Lib.hid (show R = .inr (l, ZZ) by rw [HS.out, HL.out, if_pos ((ba_nil y).2 hL0)])
            have HZE := Lib.hid (ba_of z ZZ HZ.out)
            clear HS HL hL0
            go_wp2
            go_ret3
            rw [HF.out]
            exact ⟨_, by rw [HZE.out]; rfl, hrow2, B2⟩
          · have hne : y.data.toList ≠ [] := fun e => hL0 ((ba_nil y).1 e)
            have e4 : (y.toList == ([] : List UInt8)) = false := by rw [lit_eq]; exact decide_eq_false hne
            have HS2 := Lib.hid (show R = if (58 : UInt8) ∈ y.data.toList then (if wrongF (fieldL y.data.toList) l.length = 0 then goH ZZ.length (l ++ [fieldL y.data.toList]) ZZ else .inl (wrongF (fieldL y.data.toList) l.length)) else .inl 2 by rw [HS.out, HL.out, if_neg hne])
            have con := at_str 58 58 (by decide) y w2 (by omega)
            clear HS HL hL0 hne
            go_wp2_with fail
            refine con.mono ?_
            rintro e w3 ⟨nm, vl, rfl, hnm, hvl, hb⟩
            have hnl : nm.size ≤ t.size := by rw [← ba_len, hnm.out]; exact Nat.le_trans (len_ahead 58 _) (by rw [ba_len]; omega)
            have hvl2 : vl.size ≤ t.size := by rw [← ba_len, hvl.out]; exact Nat.le_trans (len_tail 58 _) (by rw [ba_len]; omega)
            have HFD := Lib.hid (show fieldL y.data.toList = (nm.data.toList, trimB vl.data.toList) by unfold fieldL; rw [hnm.out, hvl.out])
            have hbl : (trimB vl.data.toList).length ≤ t.size := Nat.le_trans (len_trim _) (by rw [ba_len]; exact hvl2)
            have hrow3 := row_below hrow2 hb
            have B3 := B2.trans (hb.mono B2.size)
            have con2 := trim_ba vl w3 (by omega)
            clear con hb hnm hvl hrow2 B2 e4
            rw [HFD.out] at HS2
            clear HFD
            generalize fieldL y.data.toList = F0 at *
            obtain ⟨F1, hF1⟩ : ∃ b, decide ((58 : UInt8) ∈ y.data.toList) = b := ⟨_, rfl⟩
            have HF1 := Lib.hid hF1
            rw [hF1]
            clear hF1
            generalize trimB vl.data.toList = bv at *
            have hnm2 := Lib.hid (ba_of nm nm.data.toList rfl)
            have hal : nm.data.toList.length ≤ t.size := hnl
            generalize nm.data.toList = av at *
            have hnm3 := hnm2.out
            subst hnm3
            clear hnm2 hnl
            go_wp2_with fail
            refine con2.mono ?_
            rintro e w4 ⟨rfl, rfl⟩
            clear con2
            obtain ⟨W4, hW4⟩ : ∃ Z, w3.alloc (.cells #[.string ⟨av.toArray⟩, .string ⟨bv.toArray⟩] 56) = Z := ⟨_, rfl⟩
            have hb : Below w3.heap.size w3 W4 := hW4 ▸ (Below.refl _ w3).alloc (Nat.le_refl _) _
            have g0 : W4.heap[w3.heap.size]? = some (.cells #[.string ⟨av.toArray⟩, .string ⟨bv.toArray⟩] 56) := hW4 ▸ World.alloc_heap_new w3 _
            have hs4 : w3.heap.size < W4.heap.size := by rw [← hW4]; simp
            have x0 : W4.cell? ⟨w3.heap.size, 0, none⟩ = some (.string ⟨av.toArray⟩) := by simp [World.cell?, g0]
            have x1 : W4.cell? ⟨w3.heap.size, 1, none⟩ = some (.string ⟨bv.toArray⟩) := by simp [World.cell?, g0]
            have hrow4 := row_below hrow3 hb
            have B4 := B3.trans (hb.mono B3.size)
            have con := refWrong_any av bv l.length W4 (by omega) (by omega) (by omega)
            have HW4 := Lib.hid hW4
            have HS4 := Lib.hid hs4
            clear hW4 hb hrow3 B3 hs4
            cases F1 with
            | false =>
              have HF := Lib.hid (show R = .inl 2 by rw [HS2.out, if_neg (by simpa using HF1.out)])
              clear con hrow4 HS2 g0 x0 x1
              go_wp2
              rw [HW4.out]
              go_ret3
              rw [HF.out]
              exact ⟨_, rfl, World.ownsRow_nil _ _ _ _, B4⟩
            | true =>
              have HS3 := Lib.hid (show R = if wrongF (av, bv) l.length = 0 then goH ZZ.length (l ++ [(av, bv)]) ZZ else .inl (wrongF (av, bv) l.length) by rw [HS2.out, if_pos (by simpa using HF1.out)])
              have HLT := Lib.hid (wrong_lt (av, bv) l.length)
              generalize wrongF (av, bv) l.length = E at *
              clear HS2
              go_wp2_with fail
              rw [HW4.out]
              go_wp2_with fail
              refine con.mono ?_
              rintro e w5 ⟨rfl, hb⟩
              have g5 := (hb.block _ HS4.out).trans g0
              have x0' : w5.cell? ⟨w3.heap.size, 0, none⟩ = some (.string ⟨av.toArray⟩) := by simp [World.cell?, g5]
              have x1' : w5.cell? ⟨w3.heap.size, 1, none⟩ = some (.string ⟨bv.toArray⟩) := by simp [World.cell?, g5]
              have hrow5 := row_below hrow4 hb
              have B5 := B4.trans (hb.mono B4.size)
              clear con hb g0 g5 x0 x1 hrow4 B4 HW4
              by_cases hE : E = 0
              · have d1 : (E != 0) = false := by rw [hE]; rfl
                have d2 : (E == 0) = true := by rw [hE]; rfl
                have HN := Lib.hid (show R = goH z.data.toList.length (l ++ [(av, bv)]) z.data.toList by rw [HS3.out, if_pos hE, HZ.out])
                have hlt64 := HLT.out hE
                have hb5s := B5.size
                clear HS3 HLT hE
                go_wp2_with (at_builtin; go_must (refine wpList_append_own_at _ rfl _ _ 30 rfl w.heap.size 56 i0 (.agg #[.string ⟨#[]⟩, .string ⟨#[]⟩]) 2 32 Tryd.underlying30 hi0 hz0 hz1 hz2 rfl (by decide) _ _ _ rfl (hrow5.alloc _) ⟨w5.heap.size, 0, none⟩ 1 1 [.string ⟨av.toArray⟩, .string ⟨bv.toArray⟩] rfl rfl (cell_two_new _ _ _ _) (by simp [Value.oneCell']) (by unfold maxLen; omega) (by omega) (by simp; omega) ?_); intro v7 w7 hown7 hgrow7 _ _)
                have hb7 : Below w.heap.size w5 w7 := ((Below.refl _ w5).alloc hb5s _).grown hgrow7 (by simp; omega) (fun b hb => (hrow5.lt b hb).1)
                go_roundw
                case rel => exact ⟨z, l ++ [(av, bv)], rfl, by omega, by simp; omega, by rw [List.length_append, fdV_snoc]; exact hown7, HN, B5.trans hb7⟩
                case measure => simp [strSz]; omega
              · have d2 : (E == 0) = false := beq_eq_false_iff_ne.2 hE
                have d1 : (E != 0) = true := by unfold bne; rw [d2]; rfl
                have HF := Lib.hid (show R = .inl E by rw [HS3.out, if_neg hE])
                clear HS3 HLT hE hrow5
                go_wp2
                go_ret3
                rw [HF.out]
                exact ⟨_, rfl, World.ownsRow_nil _ _ _ _, B5⟩

end Go.Proofs.YtfgjcdjhaihgaaaDoor.Hdr

namespace Go.Proofs.YtfgjcdjhaihgaaaDoor.Hdr
open Go.RowKit Go.Shelf Url
attribute [local go_sem] Oper.semAt_some
set_option linter.unusedVariables false

/-- A yield of what lies in several new blocks. -/
theorem yield_argG {P : Program} {l' : Nat} {β : Type} {Arg : β → Array Value → (Nat → Prop) → World → Prop} {J Jx : List β → (Nat → Prop) → World → Prop} {ys : List β} {RB : Nat → Prop} (hJ : Abide J) (hY : Rounds P l' Arg ys RB J Jx)
    {pre : List β} {y : β} {rest : List β} (hys : ys = pre ++ y :: rest) {Q G : Nat → Prop} {W2 w4 : World} {args : Array Value} (hj : J pre Q W2) (hQ : ∀ b, Q b → b < W2.heap.size)
    (hb : Below W2.heap.size W2 w4) (hG : ∀ b, G b → W2.heap.size ≤ b ∧ b < w4.heap.size) (hA : Arg y args G w4) :
    YieldAt Fence.wide 0 P l' args w4 fun e W' => ∃ ok : Bool, e = .returned (.bool ok) ∧ RowPost J Jx (pre ++ [y]) RB Q W2 ok W' := by
  have hs := hb.size
  refine (hY pre y rest (fun b => Q b ∨ (W2.heap.size ≤ b ∧ b < w4.heap.size)) G args w4 hys ?_ ?_ hA (fun b h => .inr (hG b h))).mono ?_
  · exact hJ _ _ _ _ _ hj ((Keep.of_below hb).mono fun b h _ => h) fun b h => ⟨h.imp id And.left, h.elim (fun h => Nat.lt_of_lt_of_le (hQ b h) hs) And.right⟩
  · exact fun b h => h.elim (fun h => Nat.lt_of_lt_of_le (hQ b h) hs) And.right
  · rintro e W' ⟨hk, h⟩
    have hkk : Keep (fun b => RB b ∨ Q b) W2 W' := ((Keep.of_below hb).mono fun b h _ => h).trans (hk.mono fun b hlt h => h.imp id fun h => ⟨.inl h, fun hg => by have := hG b hg; have := hQ b h; omega⟩)
    have hq1 : ∀ b, Q b → (Q b ∨ (W2.heap.size ≤ b ∧ b < w4.heap.size)) ∧ ¬ G b := fun b h => ⟨.inl h, fun hg => by have := hG b hg; have := hQ b h; omega⟩
    have hq2 : ∀ b, ((Q b ∨ (W2.heap.size ≤ b ∧ b < w4.heap.size)) ∧ ¬ G b) → b < W'.heap.size := fun b h => Nat.lt_of_lt_of_le (h.1.elim (fun h => Nat.lt_of_lt_of_le (hQ b h) hs) And.right) hk.size
    rcases h with ⟨rfl, h⟩ | ⟨rfl, h⟩
    · exact ⟨true, rfl, hkk, _, hq1, hq2, .inl ⟨rfl, h⟩⟩
    · exact ⟨false, rfl, hkk, _, hq1, hq2, .inr ⟨rfl, h⟩⟩

/-- Block B holds a field's two cells. -/
def FB2 (B : Nat) (cs : Array Value) (X : World) : Prop := X.heap[B]? = some (.cells cs 54 (0, 0))
theorem FB2.cell {B : Nat} {cs : Array Value} {X : World} (h : FB2 B cs X) (i : Nat) (x : Value) (hx : cs[i]? = some x) : X.cell? ⟨B, i, none⟩ = some x := by
  simp only [World.cell?, show X.heap[B]? = _ from h]; exact hx
theorem FB2.frozen {B : Nat} {cs : Array Value} {X : World} (h : FB2 B cs X) (i : Nat) : X.frozen? ⟨B, i, none⟩ = false := by
  simp [World.frozen?, show X.heap[B]? = _ from h]
theorem FB2.on {B : Nat} {cs : Array Value} {X Y : World} (h : FB2 B cs X) (hk : Below X.heap.size X Y) : FB2 B cs Y := (hk.block B (Array.getElem?_eq_some_iff.1 h).1).trans h
theorem FB2.new (w : World) (cs : Array Value) : FB2 w.heap.size cs (w.alloc (.cells cs 54)) := World.alloc_heap_new w _
theorem FB2.set {B : Nat} {cs : Array Value} {X : World} (h : FB2 B cs X) (i : Nat) (v : Value) : FB2 B (cs.setIfInBounds i v) (X.setCell ⟨B, i, none⟩ v) := by
  obtain ⟨hlt, hk⟩ := Array.getElem?_eq_some_iff.1 h
  show (X.heap.modify B _)[B]? = _
  rw [Array.getElem?_eq_getElem (by rw [Array.size_modify]; exact hlt), Array.getElem_modify_self, hk]
  rfl
theorem FB2.put {B : Nat} {X : World} {a0 a1 : Value} (h : FB2 B #[a0, a1] X) (v0 v1 : Value) :
    ∃ Y, (X.setCell ⟨B, 0, none⟩ v0).setCell ⟨B, 1, none⟩ v1 = Y ∧ FB2 B #[v0, v1] Y ∧ (∀ S : Nat → Prop, ¬ S B → Keep S X Y) ∧ ∀ M, M ≤ B → Below M X Y := by
  have h8 := (h.set 0 v0).set 1 v1
  simp only [List.setIfInBounds_toArray, List.set_cons_zero, List.set_cons_succ] at h8
  refine ⟨_, rfl, h8, fun S hS => ?_, fun M hM => ?_⟩
  · exact (Keep.setCell _ _ _ hS).trans (Keep.setCell _ _ _ hS)
  · exact ((Below.refl M X).setCell (p := ⟨B, 0, none⟩) hM v0).setCell (p := ⟨B, 1, none⟩) hM v1
theorem size_fld : (Tryd.prog.info? 54).map (·.size) = some 2 := by kernel_rfl
theorem ret_fld {fn : Func} {p : Tmp} (h : fn.results = #[.cell p 54]) (tmps : Array Value) (w : World) (B : Nat) (cs : Array Value) (hp : tmps.getD p undef = .pointer (some ⟨B, 0, none⟩)) (hU : FB2 B cs w) (hs : cs.size = 2) :
    (results fn tmps).run Tryd.prog w = .ok (.agg cs) w :=
  results_cell_row h tmps w B _ cs (0, 0) _ hp hU Tryd.underlying54 rfl (by rw [size_fld, hs])

end Go.Proofs.YtfgjcdjhaihgaaaDoor.Hdr

namespace Go.Proofs.YtfgjcdjhaihgaaaDoor.Hdr
open Go.RowKit Go.Shelf Url
attribute [local go_sem] Oper.semAt_some
set_option linter.unusedVariables false

theorem mk_app (a b : List UInt8) : (⟨a.toArray⟩ : ByteArray) ++ ⟨b.toArray⟩ = ⟨(a ++ b).toArray⟩ := by
  apply ByteArray.ext; simp
theorem mk_row (x a b : List UInt8) : (⟨x.toArray⟩ : ByteArray) ++ ⟨a.toArray⟩ ++ ⟨#[58, 32]⟩ ++ ⟨b.toArray⟩ ++ ⟨#[13, 10]⟩ = ⟨(x ++ a ++ [58, 32] ++ b ++ [13, 10]).toArray⟩ := by
  apply ByteArray.ext; simp
theorem mk_end (x : List UInt8) : (⟨x.toArray⟩ : ByteArray) ++ ⟨#[13, 10]⟩ = ⟨(x ++ [13, 10]).toArray⟩ := mk_app x [13, 10]
set_option maxRecDepth 100000 in
set_option maxHeartbeats 8000000 in
theorem refText_any (q : Option Addr) (n c : Nat) (l : List Fld) (w : World) (h : FdIn w q n l) (hn : n ≤ 1048576) (hl : (textH l).length ≤ 1073741824) :
    Calls Tryd.prog 15 #[.slice q n c] w fun e w' => e = .returned (.string ⟨(textH l).toArray⟩) ∧ Below w.heap.size w w' := by
  have H1 := Lib.hid h
  have HL := Lib.hid h.1
  rw [text_rows, List.length_append] at hl
  have HX := Lib.hid (text_rows l)
  clear h
  go_enter Tryd.func15, Tryd.ntmps15
  go_wp2
  go_loopw [3, 8] (fun s i wr => ∃ (k : Nat) (x : List UInt8), k ≤ n ∧ i = .int .i64 k ∧ s = .string ⟨x.toArray⟩ ∧ Hid (x = rowsT (l.take k)) ∧ Below w.heap.size w wr) (fun _ i _ => n - (intOf i).toNat)
  case atStart => exact ⟨0, [], Nat.zero_le _, rfl, rfl, Lib.hid rfl, Below.refl _ _⟩
  case round =>
    obtain ⟨k, x, hk, rfl, rfl, HK, hB⟩ := hrel
    have hbs := hB.size
    have hxl : x.length ≤ 1073741824 := by rw [HK.out]; exact Nat.le_trans (rowsT_take l k) (by simp at hl; omega)
    by_cases hlt : k < n
    · obtain ⟨g1, rfl, _, hc1⟩ := (H1.out.below hB).2 (by omega)
      obtain ⟨⟨a, b⟩, hx⟩ : ∃ x, l[k]? = some x := ⟨_, List.getElem?_eq_getElem (by have := HL.out; omega)⟩
      obtain ⟨x0, x1⟩ := hc1 k _ hx
      simp only at x0 x1
      have HN := Lib.hid (show x ++ a ++ [58, 32] ++ b ++ [13, 10] = rowsT (l.take (k + 1)) by rw [take_snocF l k _ hx, rowsT_snoc, HK.out])
      have hnl : (x ++ a ++ [58, 32] ++ b ++ [13, 10]).length ≤ 1073741824 := by rw [HN.out]; exact Nat.le_trans (rowsT_take l (k + 1)) (by simp at hl; omega)
      simp only [List.length_append, List.length_cons, List.length_nil] at hnl
      clear hc1 hx HK
      go_wp2_with omega
      go_roundw
      case rel => exact ⟨k + 1, _, by omega, by go_num, congrArg Value.string (mk_row x a b), HN, hB.alloc hbs _⟩
      case measure => simp [intOf]; omega
    · obtain rfl : k = n := by omega
      have HE := Lib.hid (show x ++ [13, 10] = textH l by rw [HX.out, HK.out, List.take_of_length_le (by have := HL.out; omega)])
      clear H1 HK
      go_wp2_with omega
      go_ret
      rw [← HE.out]
      exact ⟨congrArg (fun v => Ending.returned (Value.string v)) (mk_end x), hB⟩

theorem lower_str (a : List UInt8) (w : World) (ha : a.length ≤ 1073741824) : Calls Tryd.prog 30 #[.string ⟨a.toArray⟩] w fun e w' => e = .returned (.string ⟨(a.map low).toArray⟩) ∧ Below w.heap.size w w' := by
  have hs : (⟨a.toArray⟩ : ByteArray).size ≤ 1099511627775 := by show a.toArray.size ≤ _; simp; omega
  refine (refLower_any ⟨a.toArray⟩ w hs).mono ?_
  rintro e w' ⟨x, rfl, hx, q, rfl⟩
  refine ⟨?_, Go.below_drewN (Below.refl _ _) _⟩
  rw [ba_of x (a.map low) (by rw [hx.out]; simp [lowL])]
theorem values_snoc (l : List Fld) (f : Fld) (name : List UInt8) : valuesL (l ++ [f]) name = valuesL l name ++ (if sameN f.1 name = true then [f.2] else []) := by
  unfold valuesL
  rw [List.filter_append, List.map_append]
  congr 1
  cases h : sameN f.1 name <;> simp [h]
theorem info_strH : (Tryd.prog.info? 9).map (fun i => (i.zero, i.size, i.bytes)) = some (some (.string ⟨#[]⟩), 1, 16) := by kernel_rfl

set_option maxRecDepth 100000 in
set_option maxHeartbeats 8000000 in
theorem refValues_any (q : Option Addr) (n c : Nat) (l : List Fld) (name : List UInt8) (w : World) (h : FdIn w q n l) (hn : n ≤ 1048576) (hl : ∀ f ∈ l, f.1.length ≤ 1073741824 ∧ f.2.length ≤ 1073741824) (hm : name.length ≤ 1073741824) :
    Calls Tryd.prog 16 #[.slice q n c, .string ⟨name.toArray⟩] w fun e w' => ∃ v, e = .returned v ∧ w'.ownsRow w.heap.size 9 1 v (valuesL l name).length ((valuesL l name).map fun x => .string ⟨x.toArray⟩) ∧ Below w.heap.size w w' := by
  obtain ⟨i0, hi0, hz0, hz1, hz2⟩ := info_parts info_strH
  have H1 := Lib.hid h
  have HL := Lib.hid h.1
  have HM := Lib.hid hl
  have hrow0 : (w.alloc (.cells #[] 9)).ownsRow w.heap.size 9 1 (.slice (some ⟨w.heap.size, 0, none⟩) 0 0) 0 [] := World.ownsRow_made w #[] 0 (Nat.le_refl _) (Nat.zero_le _) rfl
  have A1 : Below w.heap.size w (w.alloc (.cells #[] 9)) := (Below.refl _ w).alloc (Nat.le_refl _) _
  clear h hl
  go_enter Tryd.func16, Tryd.ntmps16
  go_wp2
  go_loopw [5, 11] (fun v i wr => ∃ (k : Nat) (ls : List (List UInt8)), k ≤ n ∧ i = .int .i64 k ∧ wr.ownsRow w.heap.size 9 1 v ls.length (ls.map fun x => .string ⟨x.toArray⟩) ∧ Hid (ls = valuesL (l.take k) name) ∧ ls.length ≤ k ∧ Below w.heap.size w wr) (fun _ i _ => n - (intOf i).toNat)
  case atStart => exact ⟨0, [], Nat.zero_le _, rfl, hrow0, Lib.hid rfl, Nat.le_refl _, A1⟩
  case round =>
    obtain ⟨k, ls, hk, rfl, hrow, HK, hlk, hB⟩ := hrel
    have hbs := hB.size
    clear hrow0 A1
    by_cases hlt : k < n
    · obtain ⟨g1, rfl, _, hc1⟩ := (H1.out.below hB).2 (by omega)
      obtain ⟨⟨a, b⟩, hx⟩ : ∃ x, l[k]? = some x := ⟨_, List.getElem?_eq_getElem (by have := HL.out; omega)⟩
      obtain ⟨x0, x1⟩ := hc1 k _ hx
      simp only at x0 x1
      have hfl := HM.out _ (List.mem_of_getElem? hx)
      have HN := Lib.hid (show valuesL (l.take (k + 1)) name = ls ++ (if (a.map low == name.map low) = true then [b] else []) by rw [take_snocF l k _ hx, values_snoc, HK.out]; rfl)
      obtain ⟨W2, hW2⟩ : ∃ Z, wr.alloc (.cells #[.string ⟨a.toArray⟩, .string ⟨b.toArray⟩] 56) = Z := ⟨_, rfl⟩
      have hb2 : Below wr.heap.size wr W2 := hW2 ▸ (Below.refl _ wr).alloc (Nat.le_refl _) _
      have g0 : W2.heap[wr.heap.size]? = some (.cells #[.string ⟨a.toArray⟩, .string ⟨b.toArray⟩] 56) := hW2 ▸ World.alloc_heap_new wr _
      have hlt2 : wr.heap.size < W2.heap.size := by rw [← hW2]; simp
      have y0 : W2.cell? ⟨wr.heap.size, 0, none⟩ = some (.string ⟨a.toArray⟩) := by simp [World.cell?, g0]
      have con := lower_str a W2 hfl.1
      have HW2 := Lib.hid hW2
      have HLT2 := Lib.hid hlt2
      have HB2 := Lib.hid hb2
      have HG0 := Lib.hid g0
      clear hc1 hx HK hW2 hlt2 hb2 g0 hfl
      obtain ⟨eb, heb⟩ : ∃ e, (a.map low == name.map low) = e := ⟨_, rfl⟩
      have HEB := Lib.hid heb
      rw [heb] at HN
      clear heb
      go_wp2_with fail
      rw [HW2.out]
      go_wp2_with fail
      refine con.mono ?_
      rintro e w3 ⟨rfl, hb3⟩
      have con := lower_str name w3 hm
      have B3 := hB.trans ((HB2.out.mono hbs).trans (hb3.mono (Nat.le_trans hbs HB2.out.size)))
      have g3 := (hb3.block _ HLT2.out).trans HG0.out
      have hrow3 := (Keep.of_below hb3).row ((Keep.of_below HB2.out).row hrow (fun b hb => (hrow.lt b hb).2)) (fun b hb => by have := (hrow.lt b hb).2; have := HLT2.out; omega)
      have hlt3 : wr.heap.size < w3.heap.size := Nat.lt_of_lt_of_le HLT2.out hb3.size
      clear y0 HW2 HG0 HB2 HLT2 hrow hb3
      go_wp2_with fail
      refine con.mono ?_
      rintro e w4 ⟨rfl, hb4⟩
      have g4 := (hb4.block _ hlt3).trans g3
      have y1 : w4.cell? ⟨wr.heap.size, 1, none⟩ = some (.string ⟨b.toArray⟩) := by simp [World.cell?, g4]
      have B4 := B3.trans (hb4.mono B3.size)
      have hrow4 := (Keep.of_below hb4).row hrow3 (fun b hb => (hrow3.lt b hb).2)
      have e1 := HEB.out
      have hb4s := B4.size
      clear con hb4 g3 g4 B3 hrow3 hlt3 x0 x1 HEB
      generalize a.map low = LA at *
      generalize name.map low = LN at *
      cases eb with
      | false =>
        have HN2 := Lib.hid (show ls = valuesL (l.take (k + 1)) name by rw [HN.out]; simp)
        go_wp2
        go_roundw
        case rel => exact ⟨k + 1, ls, by omega, by go_num, hrow4, HN2, by omega, B4⟩
        case measure => simp [intOf]; omega
      | true =>
        have HN2 := Lib.hid (show ls ++ [b] = valuesL (l.take (k + 1)) name by rw [HN.out]; simp)
        go_wp2_with (at_builtin; go_must (refine wpList_append_own_at _ rfl _ _ 42 rfl w.heap.size 9 i0 (.string ⟨#[]⟩) 1 16 Tryd.underlying42 hi0 hz0 hz1 hz2 rfl (by decide) _ _ _ rfl (hrow4.alloc _) ⟨w4.heap.size, 0, none⟩ 1 1 [.string ⟨b.toArray⟩] rfl rfl (cell_one_new _ _ _) (by simp [Value.oneCell']) (by unfold maxLen; omega) (by omega) (by simp; omega) ?_); intro v7 w7 hown7 hgrow7 _ _)
        have hb7 : Below w.heap.size w4 w7 := ((Below.refl _ w4).alloc hb4s _).grown hgrow7 (by simp; omega) (fun b hb => (hrow4.lt b hb).1)
        go_roundw
        case rel => exact ⟨k + 1, ls ++ [b], by omega, by go_num, by rw [List.length_append, List.map_append]; exact hown7, HN2, by simp; omega, B4.trans hb7⟩
        case measure => simp [intOf]; omega
    · obtain rfl : k = n := by omega
      have HE := Lib.hid (show ls = valuesL l name by rw [HK.out, List.take_of_length_le (by have := HL.out; omega)])
      clear H1 HK HM
      go_wp2
      go_ret
      rw [← HE.out]
      exact ⟨_, rfl, hrow, hB⟩
end Go.Proofs.YtfgjcdjhaihgaaaDoor.Hdr

namespace Go.Proofs.YtfgjcdjhaihgaaaDoor.Hdr
open Go.RowKit Go.Shelf Url
attribute [local go_sem] Oper.semAt_some
set_option linter.unusedVariables false

theorem drop_getElemT {α : Type} (l : List α) (k : Nat) (h : k < l.length) : ∃ x, l[k]? = some x ∧ l.drop k = x :: l.drop (k + 1) :=
  ⟨l[k], List.getElem?_eq_getElem h, List.drop_eq_getElem_cons h⟩
set_option maxRecDepth 100000 in
set_option maxHeartbeats 4000000 in
theorem All1_iter (Bx B : Nat) (q : Option Addr) (n c : Nat) (zs : List Fld) (RB : Nat → Prop) (w0 : World) (hm : n ≤ 1048576) (hF : ∀ w2, Keep RB w0 w2 → HdrIn B w2 q n c zs) (b : Boxed w0 Bx 26 (.slice q n c)) (hRx : RB Bx) (hs : ∀ z ∈ zs, z.1.length ≤ 1048576 ∧ z.2.length ≤ 1048576) :
    IterC Tryd.prog 29 #[.pointer (some ⟨Bx, 0, none⟩)] FldArg zs RB w0 := by
  intro l J Jx W hW hJ hJx hY h0
  refine (callsIn_wide (n := 1)).1 ?_
  refine callsIn_of_wp Tryd.func29 rfl trivial ?_ rfl
  simp only [Tryd.ntmps29, List.size_toArray, List.length_cons, List.length_nil, Nat.reduceAdd, Nat.reduceSub, Array.replicate_succ, Array.replicate_zero, List.push_toArray, List.append_toArray, List.nil_append, List.cons_append]
  have k1 := (hW.boxed b hRx).cell
  have hl := Lib.hid (hF _ (Keep.refl _ _)).len
  gi_wp2
  gi_loopw [8] (fun i wr => ∃ k : Nat, ∃ pre : List Fld, ∃ Q : Nat → Prop, k ≤ n ∧ i = .int .i64 k ∧ Keep RB W wr ∧ Hid (zs = pre ++ zs.drop k) ∧ J pre Q wr ∧ (∀ b, Q b → b < wr.heap.size)) (fun i _ => n - (intOf i).toNat)
  case atStart => exact ⟨0, [], fun _ => False, Nat.zero_le _, rfl, Keep.refl _ _, rfl, h0, fun _ h => h.elim⟩
  case round =>
    obtain ⟨k, pre, Q, hk, rfl, hK, HX, hJr, hQ⟩ := hrel
    by_cases hlt : k < n
    · obtain ⟨g, o, rfl, _, hg, hc⟩ := (hF wr (hW.trans hK)).2.2.2 (by omega)
      obtain ⟨z, hz, hd⟩ := drop_getElemT zs k (by rw [hl.out]; exact hlt)
      obtain ⟨sx, sy⟩ := hs _ (List.mem_of_getElem? hz)
      obtain ⟨x, y⟩ := z
      obtain ⟨k2, k3⟩ := hc k _ hz
      simp only at k2 k3 sx sy
      have HX2 := Lib.hid (show zs = pre ++ (x, y) :: zs.drop (k + 1) by conv => lhs; rw [HX.out, hd])
      have hbf : Below wr.heap.size wr (wr.alloc (.cells #[.string ⟨x.toArray⟩, .string ⟨y.toArray⟩] 73)) := (Below.refl _ wr).alloc (Nat.le_refl _) _
      have x0 := box_cell wr #[.string ⟨x.toArray⟩, .string ⟨y.toArray⟩] 73 0 _ rfl
      have x1 := box_cell wr #[.string ⟨x.toArray⟩, .string ⟨y.toArray⟩] 73 1 _ rfl
      obtain ⟨c1, W1, hr1, R1, B1, S1⟩ := conv_rowC (wr.alloc (.cells #[.string ⟨x.toArray⟩, .string ⟨y.toArray⟩] 73)) x (by omega)
      have x2 := cell_on x1 B1
      obtain ⟨c2, W2, hr2, R2, B2, S2⟩ := conv_rowC W1 y (by omega)
      have R3 := R1.below B2
      have hb4 := hbf.trans ((B1.mono hbf.size).trans (B2.mono (Nat.le_trans hbf.size B1.size)))
      obtain ⟨b1, hb1⟩ : ∃ b, (wr.alloc (.cells #[.string ⟨x.toArray⟩, .string ⟨y.toArray⟩] 73)).heap.size = b := ⟨_, rfl⟩
      have hb1' : wr.heap.size + 1 = b1 := by rw [← hb1, World.size_alloc]
      obtain ⟨b2, hb2⟩ : ∃ b, W1.heap.size = b := ⟨_, rfl⟩
      rw [hb1] at hr1 R1 R3 S1
      rw [hb2] at hr2 R2 S2
      obtain ⟨fn, tmps, assign, body, hy, hRR⟩ := yield_argG (W2 := wr) (w4 := W2) (G := fun b => (Value.slice (some ⟨b1, 0, none⟩) x.length c1).ownBlock = some b ∨ (Value.slice (some ⟨b2, 0, none⟩) y.length c2).ownBlock = some b) (args := #[.agg #[.slice (some ⟨b1, 0, none⟩) x.length c1, .slice (some ⟨b2, 0, none⟩) y.length c2]]) hJ hY HX2.out hJr hQ hb4 (fun b h => by
        rcases h with h | h
        · obtain rfl : b1 = b := by simpa [Value.ownBlock] using h
          have := S1; have := S2; omega
        · obtain rfl : b2 = b := by simpa [Value.ownBlock] using h
          have := S1; have := S2; omega) ⟨_, _, rfl, R3, R2, rfl⟩
      have HW1 := Lib.hid hb1
      clear HX hd hz hc hF sx sy hs R1 R2 R3 hb4 S1 S2 hb1 hb1' hb2 B1 B2 hbf x1
      gi_wp2_with fail
      refine hRR.mono ?_
      rintro e W5 ⟨ok, rfl, hkp, Q', hQQ, hQl', hpost⟩
      have hk5 : Keep RB W W5 := hK.trans (hkp.mono fun b _ h => .inl h)
      clear hRR hy
      cases ok with
      | false =>
        have hj5 := (hpost.resolve_left (by simp)).2
        clear hpost
        gi_wp2
        refine bodyPost_ret (results_none rfl _ _ _) rfl ?_
        exact ⟨⟨_, rfl⟩, Q', hQl', .inr ⟨pre ++ [(x, y)], _, by rw [List.append_assoc]; exact HX2.out, hj5⟩⟩
      | true =>
        have hj5 := (hpost.resolve_right (by simp)).2
        clear hpost
        gi_wp2
        go_roundw
        case rel => exact ⟨k + 1, pre ++ [(x, y)], Q', by omega, by go_num, hk5, Lib.hid (show zs = (pre ++ [(x, y)]) ++ zs.drop (k + 1) by rw [List.append_assoc]; exact HX2.out), hj5, hQl'⟩
        case measure => simp [intOf]; omega
    · have HX2 := Lib.hid (show zs = pre by have := HX.out; rwa [List.drop_of_length_le (by rw [hl.out]; omega), List.append_nil] at this)
      clear HX hY hF
      gi_wp2
      refine bodyPost_end (results_none rfl _ _ _) rfl ?_
      exact ⟨⟨_, rfl⟩, Q, hQ, .inl (by rw [HX2.out]; exact hJr)⟩

/-- An iterator that tells xs; what it needs lies below N, or is new. -/
def TellsFrom {α : Type} (N : Nat) (Arg : α → Array Value → (Nat → Prop) → World → Prop) (xs : List α) (w : World) (e : Ending) (w' : World) : Prop :=
  ∃ (gf : Nat) (lb : Array Value) (RB : Nat → Prop), e = .returned (.func (.func gf) #[] lb) ∧ (∀ args w, (callFunc gf args).run Tryd.prog w = .ok (.enter gf args) w) ∧ IterC Tryd.prog gf lb Arg xs RB w' ∧ (∀ b, RB b → b < w'.heap.size ∧ (b < N ∨ w.heap.size ≤ b)) ∧ Below w.heap.size w w'
theorem tells_of {α : Type} {N : Nat} {Arg : α → Array Value → (Nat → Prop) → World → Prop} {xs : List α} {w : World} {e : Ending} {w' : World} (h : TellsFrom N Arg xs w e w') : TellsOut Arg xs w e w' := by
  obtain ⟨gf, lb, RB, h1, h2, h3, h4, h5⟩ := h
  exact ⟨gf, lb, RB, h1, h2, h3, fun b hb => (h4 b hb).1, h5⟩
theorem hdr_from {B : Nat} {w0 w w1 : World} {q : Option Addr} {n c : Nat} {zs : List Fld} (h : HdrIn B w0 q n c zs) (hw : Below w0.heap.size w0 w) (hb : Below w.heap.size w w1) : ∀ w2, Keep (fun b => b < w0.heap.size ∨ (w.heap.size ≤ b ∧ b < w1.heap.size)) w1 w2 → HdrIn B w2 q n c zs :=
  fun w2 hk => h.below ((hw.trans (hb.mono hw.size)).trans ((hk.mono fun b _ hb => .inl hb).below (hw.trans (hb.mono hw.size)).size))
theorem All_from (B : Nat) (q : Option Addr) (n c : Nat) (l : List Fld) (w0 w : World) (hw : Below w0.heap.size w0 w) (h : HdrIn B w0 q n c l) (hl : n ≤ 1048576) (hs : ∀ f ∈ l, f.1.length ≤ 1048576 ∧ f.2.length ≤ 1048576) :
    Calls Tryd.prog 12 #[.agg #[.slice q n c]] w (TellsFrom w0.heap.size FldArg l w) := by
  have hb : Below w.heap.size w (w.alloc (.cells #[.slice q n c] 26)) := (Below.refl _ w).alloc (Nat.le_refl _) _
  have hF := hdr_from h hw hb
  have hi := All1_iter w.heap.size B q n c l _ _ hl hF (Boxed.new w _ _) (.inr ⟨Nat.le_refl _, by simp⟩) hs
  have hsz := hw.size
  clear h hs hF
  go_enter Tryd.func12, Tryd.ntmps12
  go_wp2
  go_ret
  exact ⟨_, _, _, rfl, enters_of Tryd.func29 (by kernel_rfl) rfl, hi, fun b h => ⟨by rcases h with h | h; (have := hb.size; omega); exact h.2, by rcases h with h | h; exact .inl h; exact .inr h.1⟩, hb⟩
theorem All_any (B : Nat) (q : Option Addr) (n c : Nat) (l : List Fld) (w : World) (h : HdrIn B w q n c l) (hl : n ≤ 1048576) (hs : ∀ f ∈ l, f.1.length ≤ 1048576 ∧ f.2.length ≤ 1048576) :
    Calls Tryd.prog 12 #[.agg #[.slice q n c]] w (TellsOut FldArg l w) :=
  (All_from B q n c l w w (Below.refl _ _) h hl hs).mono fun _ _ h => tells_of h
theorem Len_any (B : Nat) (q : Option Addr) (n c : Nat) (l : List Fld) (w : World) (h : HdrIn B w q n c l) :
    Calls Tryd.prog 13 #[.agg #[.slice q n c]] w fun e w' => e = .returned (.int .i64 (n : Int)) ∧ Below w.heap.size w w' := by
  clear h
  have hb : Below w.heap.size w (w.alloc (.cells #[.slice q n c] 26)) := (Below.refl _ w).alloc (Nat.le_refl _) _
  go_enter Tryd.func13, Tryd.ntmps13
  go_wp2
  go_ret
  exact ⟨rfl, hb⟩

/-! ### the values of a name -/
theorem values_cons (f : Fld) (l : List Fld) (name : List UInt8) : valuesL (f :: l) name = (if sameN f.1 name = true then [f.2] else []) ++ valuesL l name := by
  unfold valuesL
  rw [List.filter_cons]
  split <;> rfl
theorem same_low (a b : List UInt8) : sameLow a b = sameN a b := by
  unfold sameLow sameN lowL
  by_cases h : a.map low = b.map low <;> simp [h]

set_option maxRecDepth 100000 in
set_option maxHeartbeats 8000000 in
theorem Values1_iter (Bx Bn B : Nat) (q : Option Addr) (n c : Nat) (zs : List Fld) (nm : List UInt8) (RB : Nat → Prop) (w0 : World) (hm : n ≤ 1048576) (hF : ∀ w2, Keep RB w0 w2 → HdrIn B w2 q n c zs) (b : Boxed w0 Bx 26 (.slice q n c)) (hRx : RB Bx) (bn : Boxed w0 Bn 9 (.string ⟨nm.toArray⟩)) (hRn : RB Bn) (hRl : ∀ b, RB b → b < w0.heap.size) (hnm : nm.length ≤ 1048576) (hs : ∀ z ∈ zs, z.1.length ≤ 1048576 ∧ z.2.length ≤ 1048576) :
    IterC Tryd.prog 31 #[.pointer (some ⟨Bn, 0, none⟩), .pointer (some ⟨Bx, 0, none⟩)] TxtArg (valuesL zs nm) RB w0 := by
  intro l J Jx W hW hJ hJx hY h0
  refine (callsIn_wide (n := 1)).1 ?_
  refine callsIn_of_wp Tryd.func31 rfl trivial ?_ rfl
  simp only [Tryd.ntmps31, List.size_toArray, List.length_cons, List.length_nil, Nat.reduceAdd, Nat.reduceSub, Array.replicate_succ, Array.replicate_zero, List.push_toArray, List.append_toArray, List.nil_append, List.cons_append]
  have kb := hW.boxed b hRx
  have kn := (hW.boxed bn hRn).cell
  have hl := Lib.hid (hF _ (Keep.refl _ _)).len
  obtain ⟨c0, W0, hr0, R0, B0, S0⟩ := conv_rowC W nm (by omega)
  have k1 := ((Keep.of_below B0).boxed kb kb.lt).cell
  have hj0 : J [] (fun b => b = W.heap.size) W0 := hJ _ _ _ _ _ h0 ((Keep.of_below B0).mono fun b hb _ => hb) (fun b hb => ⟨.inr (by omega), by omega⟩)
  have hK0 : Keep RB W W0 := (Keep.of_below B0).mono fun b hb _ => hb
  have HQ0 := Lib.hid (show ∀ b, b = W.heap.size → b < W0.heap.size from fun b hb => by omega)
  have HRW := Lib.hid (show ∀ b, RB b → b < W.heap.size from fun b hb => Nat.lt_of_lt_of_le (hRl b hb) hW.size)
  obtain ⟨gb, hgb⟩ : ∃ g, W.heap.size = g := ⟨_, rfl⟩
  rw [hgb] at hr0 R0 hj0 HQ0 HRW
  have HGB := Lib.hid hgb
  clear hgb B0 S0 kb h0
  gi_wp2
  gi_loopw [12] (fun i wr => ∃ k : Nat, ∃ pre : List (List UInt8), ∃ Q : Nat → Prop, k ≤ n ∧ i = .int .i64 k ∧ Keep RB W wr ∧ Hid (valuesL zs nm = pre ++ valuesL (zs.drop k) nm) ∧ J pre Q wr ∧ (∀ b, Q b → b < wr.heap.size) ∧ Q gb ∧ RowC wr (.slice (some ⟨gb, 0, none⟩) nm.length c0) nm) (fun i _ => n - (intOf i).toNat)
  case atStart => exact ⟨0, [], _, Nat.zero_le _, rfl, hK0, rfl, hj0, HQ0.out, rfl, R0⟩
  case round =>
    obtain ⟨k, pre, Q, hk, rfl, hK, HX, hJr, hQ, hQg, hRw⟩ := hrel
    clear hr0 R0 hj0 HQ0 hK0
    by_cases hlt : k < n
    · obtain ⟨g, o, rfl, _, hg, hc⟩ := (hF wr (hW.trans hK)).2.2.2 (by omega)
      obtain ⟨z, hz, hd⟩ := drop_getElemT zs k (by rw [hl.out]; exact hlt)
      obtain ⟨sx, sy⟩ := hs _ (List.mem_of_getElem? hz)
      obtain ⟨x, y⟩ := z
      obtain ⟨k2, k3⟩ := hc k _ hz
      simp only at k2 k3 sx sy
      have HX1 := Lib.hid (show valuesL zs nm = pre ++ ((if sameN x nm = true then [y] else []) ++ valuesL (zs.drop (k + 1)) nm) by rw [HX.out, hd, values_cons])
      have hbf : Below wr.heap.size wr (wr.alloc (.cells #[.string ⟨x.toArray⟩, .string ⟨y.toArray⟩] 73)) := (Below.refl _ wr).alloc (Nat.le_refl _) _
      have x0 := box_cell wr #[.string ⟨x.toArray⟩, .string ⟨y.toArray⟩] 73 0 _ rfl
      have x1 := box_cell wr #[.string ⟨x.toArray⟩, .string ⟨y.toArray⟩] 73 1 _ rfl
      obtain ⟨c1, W1, hr1, R1, B1, S1⟩ := conv_rowC (wr.alloc (.cells #[.string ⟨x.toArray⟩, .string ⟨y.toArray⟩] 73)) x (by omega)
      have x2 := cell_on x1 B1
      have hb2 := hbf.trans (B1.mono hbf.size)
      have hRw1 := hRw.below hb2
      obtain ⟨b1, hb1⟩ : ∃ b, (wr.alloc (.cells #[.string ⟨x.toArray⟩, .string ⟨y.toArray⟩] 73)).heap.size = b := ⟨_, rfl⟩
      rw [hb1] at hr1 R1 S1
      have con := cutSame_any (some ⟨b1, 0, none⟩) (some ⟨gb, 0, none⟩) x.length c1 nm.length c0 x nm W1 rfl rfl (by omega) (by omega) R1.by.at.2.2.2.2 hRw1.by.at.2.2.2.2
      rw [same_low] at con
      have HB1 := Lib.hid hb1
      have HY1 := Lib.hid sy
      have hy1 : y.length ≤ 1048576 := sy
      clear HX hd hz hc sx sy hbf R1 S1 hb1 hRw1 B1 x1
      obtain ⟨sm, hsm⟩ : ∃ b, sameN x nm = b := ⟨_, rfl⟩
      rw [hsm] at con HX1
      clear hsm
      gi_wp2_with fail
      refine ⟨trivial, (callsIn_wide.2 con).mono ?_⟩
      rintro e w3 ⟨rfl, hw3⟩
      subst hw3
      cases sm with
      | false =>
        have HX2 := Lib.hid (show valuesL zs nm = pre ++ valuesL (zs.drop (k + 1)) nm by rw [HX1.out, if_neg (by simp), List.nil_append])
        have hkk : Keep (fun b => b < wr.heap.size) wr W1 := (Keep.of_below hb2)
        have hQ2 : ∀ b, Q b → b < W1.heap.size := fun b hb => Nat.lt_of_lt_of_le (hQ b hb) hb2.size
        have hj2 := hJ _ _ Q _ _ hJr ((Keep.of_below hb2).mono fun b hb _ => hb) (fun b hb => ⟨.inl hb, hQ2 b hb⟩)
        have hRw2 := hRw.below hb2
        clear con HX1 hY x0 x2 kn k1 k2 k3 hr1 hF hs
        gi_wp2_with fail
        refine ⟨fun _ h => (by cases h), ?_⟩
        gi_wp2
        go_roundw
        case rel => exact ⟨k + 1, pre, Q, by omega, by go_num, hK.trans (hkk.mono fun b hb _ => Nat.lt_of_lt_of_le (HRW.out b ‹_›) (by have := HGB.out; have := hK.size; omega)), HX2, hj2, hQ2, hQg, hRw2⟩
        case measure => simp [intOf]; omega
      | true =>
        have HX2 := Lib.hid (show valuesL zs nm = pre ++ y :: valuesL (zs.drop (k + 1)) nm by rw [HX1.out, if_pos rfl]; rfl)
        obtain ⟨c2, W2, hr2, R2, B2, S2⟩ := conv_rowC W1 y (by omega)
        obtain ⟨b2, hbb2⟩ : ∃ b, W1.heap.size = b := ⟨_, rfl⟩
        rw [hbb2] at hr2 R2 S2
        have hb4 := hb2.trans (B2.mono hb2.size)
        have hs2 := hb2.size
        obtain ⟨fn, tmps, assign, body, hy, hR⟩ := yield_argG (W2 := wr) (w4 := W2) (G := fun b => (Value.slice (some ⟨b2, 0, none⟩) y.length c2).ownBlock = some b) (args := #[.slice (some ⟨b2, 0, none⟩) y.length c2]) hJ hY HX2.out hJr hQ hb4 (fun b h => by
          obtain rfl : b2 = b := by simpa [Value.ownBlock] using h
          omega) ⟨_, rfl, R2, rfl⟩
        clear con HX1 hY x0 kn k1 k2 k3 hr1 R2 S2 B2 hbb2 hb4 hs2 hb2
        gi_wp2_with fail
        refine hR.mono ?_
        rintro e W5 ⟨ok, rfl, hkp, Q', hQQ, hQl', hpost⟩
        have hk5 : Keep RB W W5 := hK.trans (hkp.mono fun b _ h => .inl h)
        have hRw5 := hRw.keep hkp (fun b hb => by cases hb; exact .inr hQg)
        have hQg5 := hQQ gb hQg
        clear hR hy
        cases ok with
        | false =>
          have hj5 := (hpost.resolve_left (by simp)).2
          clear hpost
          gi_wp2
          refine bodyPost_ret (results_none rfl _ _ _) rfl ?_
          exact ⟨⟨_, rfl⟩, Q', hQl', .inr ⟨pre ++ [y], _, by rw [HX2.out, List.append_assoc]; rfl, hj5⟩⟩
        | true =>
          have hj5 := (hpost.resolve_right (by simp)).2
          clear hpost
          gi_wp2
          go_roundw
          case rel => exact ⟨k + 1, pre ++ [y], Q', by omega, by go_num, hk5, Lib.hid (by rw [HX2.out, List.append_assoc]; rfl), hj5, hQl', hQg5, hRw5⟩
          case measure => simp [intOf]; omega
    · have HX2 := Lib.hid (show valuesL zs nm = pre by rw [HX.out, List.drop_of_length_le (by rw [hl.out]; omega)]; simp [valuesL])
      clear HX hY hF
      gi_wp2
      refine bodyPost_end (results_none rfl _ _ _) rfl ?_
      exact ⟨⟨_, rfl⟩, Q, hQ, .inl (by rw [HX2.out]; exact hJr)⟩
end Go.Proofs.YtfgjcdjhaihgaaaDoor.Hdr

namespace Go.Proofs.YtfgjcdjhaihgaaaDoor.Hdr
open Go.RowKit Go.Shelf Url
attribute [local go_sem] Oper.semAt_some

set_option maxRecDepth 100000 in
set_option maxHeartbeats 2000000 in
theorem texts_any (gf : Nat) (lb : Array Value) (xs : List (List UInt8)) (RB : Nat → Prop) (w : World) (eg : ∀ args w, (callFunc gf args).run Tryd.prog w = .ok (.enter gf args) w)
    (hi : IterC Tryd.prog gf lb TxtArg xs RB w) (hRs : ∀ b, RB b → b < w.heap.size) (hN : xs.length ≤ 1099511627776) (hL : ∀ x ∈ xs, x.length ≤ 140737488355328) :
    Calls Tryd.prog 19 #[.func (.func gf) #[] lb] w fun e w' => ∃ v, e = .returned v ∧ w'.ownsRow w.heap.size 9 1 v xs.length (xs.map strV) ∧ Below w.heap.size w w' := by
  obtain ⟨i0, hi0, hz0, hz1, hz2⟩ := info_parts info_str
  refine (callsIn_wide (n := 1)).1 ?_
  refine callsIn_of_wp_marks Tryd.func19 rfl trivial ?_ rfl
  simp only [Tryd.ntmps19, List.size_toArray, List.length_cons, List.length_nil, Nat.reduceAdd, Nat.reduceSub, Array.replicate_succ, Array.replicate_zero, List.push_toArray, List.append_toArray, List.nil_append, List.cons_append]
  gi_wp2
  have bO := Boxed.new w 42 (.slice none 0 0)
  obtain ⟨W0, hW0⟩ : ∃ W0, w.alloc (.cells #[.slice none 0 0] 42) = W0 := ⟨_, rfl⟩
  rw [hW0] at bO ⊢
  have hB0 : Below w.heap.size w W0 := hW0 ▸ (Below.refl _ w).alloc (Nat.le_refl _) _
  have hs0 : W0.heap.size = w.heap.size + 1 := by rw [← hW0]; simp
  clear hW0
  refine rf_law (gf := gf) (lb := lb) rfl eg hi ((Keep.of_below hB0).mono fun b _ hb => hRs b hb) (fun b hb => by have := hRs b hb; omega) (fun x args G W h => by obtain ⟨v, rfl, _⟩ := h; rfl)
    (AllI w.heap.size w.heap.size w) (fun _ _ _ _ => False) (AllI_abide _ _ _ (Nat.le_refl _)) (fun _ _ _ _ _ _ h _ _ => h)
    ⟨_, bO, World.ownsRow_nil _ _ _ _, (fun _ h => h.elim), (fun h => h), (fun _ h => by cases h), hB0⟩ ?round ?done ?stop
  case round =>
    rintro ll pre x rest Pv G args Wr hll hxs ⟨v, hbx, hrow, hge, hnB, hnv, hBl⟩ hPl hGl hPb hGP ⟨p, rfl, hp, rfl⟩
    have hxm : x ∈ xs := by rw [hxs]; simp
    have hxl := hL x hxm
    obtain ⟨q, c, rfl⟩ := hp.form
    have hlen : pre.length + rest.length + 1 = xs.length := by rw [hxs]; simp; omega
    gi_wp2
    refine ⟨Keep.refl _ _, fun W2 hk2 hs2 r hr => ?_⟩
    have hlB : ll ≠ w.heap.size := fun h => hnB (h ▸ hPl)
    have hk2' : Keep (fun b => ¬ Pv b) Wr W2 := hk2.mono fun b _ hb h => hb (h ▸ hPl)
    have gx : Keep (fun b => (Value.slice q x.length c).ownBlock = some b) Wr W2 := hk2.mono fun b _ hb h => hGl (h ▸ hb)
    replace hbx := hk2'.boxed hbx hnB
    replace hrow := hk2'.row hrow hnv
    have hbs2 : Lib.BytesIn W2 q x.length (Lib.numsL x) := (hp.keep gx (fun _ h => h)).by.at.2.2.2.2
    have hBl2 : Below w.heap.size w W2 := hBl.trans ((hk2'.mono fun b hb h hpb => by have := hge b hpb; omega).below hBl.size)
    have hcv := hbs2.convert (P := Tryd.prog) (Lib.numsL_length x) c 22 5 9 Tryd.underlying22 Tryd.underlying5 Tryd.underlying9
    rw [strOfNums_numsL] at hcv
    have cB := hbx.cell
    have fB := hbx.frozen
    have hszB := hBl2.size
    have hpl : pre.length + 1 ≤ 1099511627776 := by omega
    have hPl2 : ∀ b, Pv b → b < W2.heap.size := fun b hb => by rw [hs2]; exact hPb b hb
    have hszr : W2.heap.size ≤ Wr.heap.size := by omega
    clear hs2 hxs hlen hxm hBl hr hk2' gx hk2 hp
    gi_wp2_with (gi_at_builtin; go_must (refine wpListIn_append_own_at _ rfl _ _ 42 rfl w.heap.size 9 i0 (.string ByteArray.empty) 1 16 Tryd.underlying42 hi0 hz0 hz1 hz2 rfl (by decide) _ _ _ rfl (hrow.alloc _) ⟨W2.heap.size, 0, none⟩ 1 1 [strV x] rfl rfl (cell_one_new _ _ _) (by simp [strV, Value.oneCell']) (by unfold maxLen; omega) (by omega) (by simp; omega) ?_); intro v' w1 hown' hgrow _ hat; obtain ⟨g', cap', rfl⟩ := ownsRow_succ hown'; obtain ⟨hv1, hv2, hr2, hk2, hb2⟩ := hbx.appended (by decide) hrow hszB (Nat.le_refl _) hown' hgrow; have hc1 := hv1.cell; have hf1 := hv1.frozen)
    have hPk : Keep Pv W2 (w1.setCell ⟨w.heap.size, 0, none⟩ (.slice (some ⟨g', 0, none⟩) (pre.length + 1) cap')) :=
      ((Keep.alloc _ W2 _).trans (Keep.of_grownBy hgrow fun r hr' => hnv r hr')).trans (Keep.setCell _ _ _ hnB)
    have hgP : ¬ Pv g' := fun h => by
      rcases hat with h' | h'
      · exact hnv g' h'.symm h
      · have := hPl2 g' h; simp [Value.ownBlock] at h'; omega
    obtain ⟨W3, hW3⟩ : ∃ W3, w1.setCell ⟨w.heap.size, 0, none⟩ (.slice (some ⟨g', 0, none⟩) (pre.length + 1) cap') = W3 := ⟨_, rfl⟩
    rw [hW3] at hv2 hr2 hb2 hPk ⊢
    clear hW3 hk2 hv1 hown' hgrow hc1 hf1 hat cB fB hcv
    gi_wp2
    refine ⟨⟨hPk.os, hPk.tape, hPk.output, hPk.size, fun b hb h => ?_⟩, _, hv2, ?_, fun b hb => hge b hb.1, fun hb => hnB hb.1, fun b hb hb' => ?_, hBl2.trans hb2⟩
    · rcases h with h | h
      · exact hb2.block b (hRs b h)
      · exact hPk.block b hb h.1
    · rw [List.map_append, List.length_append]
      exact hr2
    · cases hb
      exact hgP hb'.1
  case done =>
    rintro D Pv Wd hD hPD hPl ⟨v, hbx, hrow, hge, hnB, hnv, hBl⟩ hK
    have cB := hbx.cell
    gi_wp2
    refine ⟨by simp, .inl ⟨_, _, rfl, run_takeDeferred hK, ?_⟩⟩
    exact ⟨_, results_tmp rfl _ _ _, v, rfl, (Keep.putObj (S := fun b => ¬ Pv b) Wd D _ (fun h => h hPD)).row hrow hnv, hBl.trans (belowK_b (w := w) (Nat.le_refl _) Wd D _ _ (hge D hPD) hK rfl rfl)⟩
  case stop =>
    rintro D c pre rest Pv Wd _ _ _ _ h _
    exact h.elim

end Go.Proofs.YtfgjcdjhaihgaaaDoor.Hdr

namespace Go.Proofs.YtfgjcdjhaihgaaaDoor.Hdr
open Go.RowKit Go.Shelf Url
attribute [local go_sem] Oper.semAt_some
set_option linter.unusedVariables false

set_option maxRecDepth 100000 in
set_option maxHeartbeats 2000000 in
theorem Values_from (B : Nat) (q : Option Addr) (n c : Nat) (l : List Fld) (name : List UInt8) (w0 w : World) (hw : Below w0.heap.size w0 w) (h : HdrIn B w0 q n c l) (hl : n ≤ 1048576) (hs : ∀ f ∈ l, f.1.length ≤ 1048576 ∧ f.2.length ≤ 1048576) (hm : name.length ≤ 1048576) :
    Calls Tryd.prog 20 #[.agg #[.slice q n c], .string ⟨name.toArray⟩] w (TellsFrom w0.heap.size TxtArg (valuesL l name) w) := by
  have hb : Below w.heap.size w ((w.alloc (.cells #[.slice q n c] 26)).alloc (.cells #[.string ⟨name.toArray⟩] 9)) := ((Below.refl _ w).alloc (Nat.le_refl _) _).alloc (by simp) _
  have b2 := Boxed.new (w.alloc (.cells #[.slice q n c] 26)) 9 (.string ⟨name.toArray⟩)
  rw [World.size_alloc] at b2
  have hF := hdr_from h hw hb
  have hsz := hw.size
  have hi := Values1_iter w.heap.size (w.heap.size + 1) B q n c l name _ _ hl hF ((Boxed.new w _ _).alloc _) (.inr ⟨Nat.le_refl _, by simp; omega⟩) b2 (.inr ⟨by omega, by simp⟩) (fun b h => by rcases h with h | h; (have := hb.size; omega); exact h.2) hm hs
  clear h hs b2 hF
  go_enter Tryd.func20, Tryd.ntmps20
  go_wp2
  go_ret
  exact ⟨_, _, _, rfl, enters_of Tryd.func31 (by kernel_rfl) rfl, hi, fun b h => ⟨by rcases h with h | h; (have := hb.size; omega); exact h.2, by rcases h with h | h; exact .inl h; exact .inr h.1⟩, hb⟩
theorem Values_any (B : Nat) (q : Option Addr) (n c : Nat) (l : List Fld) (name : List UInt8) (w : World) (h : HdrIn B w q n c l) (hl : n ≤ 1048576) (hs : ∀ f ∈ l, f.1.length ≤ 1048576 ∧ f.2.length ≤ 1048576) (hm : name.length ≤ 1048576) :
    Calls Tryd.prog 20 #[.agg #[.slice q n c], .string ⟨name.toArray⟩] w (TellsOut TxtArg (valuesL l name) w) :=
  (Values_from B q n c l name w w (Below.refl _ _) h hl hs hm).mono fun _ _ h => tells_of h

theorem results_slice_bool {fn : Func} {p u : Tmp} (h : fn.results = #[.cell p 22, .cell u 4]) (tmps : Array Value) (w : World) (B C : Nat) (v x : Value) (hp : tmps.getD p undef = .pointer (some ⟨B, 0, none⟩)) (hu : tmps.getD u undef = .pointer (some ⟨C, 0, none⟩)) (hb : w.cell? ⟨B, 0, none⟩ = some v) (hc : w.cell? ⟨C, 0, none⟩ = some x) :
    (results fn tmps).run Tryd.prog w = .ok (.tuple #[v, x]) w := by
  have hp' : tmps[p]?.getD undef = .pointer (some ⟨B, 0, none⟩) := by simpa using hp
  have hu' : tmps[u]?.getD undef = .pointer (some ⟨C, 0, none⟩) := by simpa using hu
  have ha : ∀ w', (isAgg 4).run Tryd.prog w' = .ok false w' := Tryd.isAgg4
  have hs : ∀ w', (isAgg 22).run Tryd.prog w' = .ok false w' := Tryd.isAgg22
  have hl : (load ⟨B, 0, none⟩).run Tryd.prog w = .ok v w := by simp [go_sem, hb]
  have hk : (load ⟨C, 0, none⟩).run Tryd.prog w = .ok x w := by simp [go_sem, hc]
  simp [results, h, hp', hu', asAddr, loadVar, ha, hs, hl, hk, Result.andThen]

/-- Nothing told yet: both results as they were laid. -/
def GtI (w : World) (M : Nat) (pre : List (List UInt8)) (Pv : Nat → Prop) (W : World) : Prop :=
  pre = [] ∧ Boxed W (w.heap.size + 1) 22 (.slice none 0 0) ∧ Boxed W (w.heap.size + 2) 4 (.bool false) ∧ (∀ b, Pv b → M ≤ b) ∧ Below w.heap.size w W
/-- The first one told: it lies in the result. -/
def GtX (w : World) (M : Nat) (c : Code) (pre : List (List UInt8)) (Pv : Nat → Prop) (W : World) : Prop :=
  c = .ret ∧ ∃ (x : List UInt8) (q : Option Addr) (n cc : Nat), pre = [x] ∧ Boxed W (w.heap.size + 1) 22 (.slice q n cc) ∧ Boxed W (w.heap.size + 2) 4 (.bool true) ∧ RowC W (.slice q n cc) x ∧ (∀ b, (Value.slice q n cc).ownBlock = some b → ¬ Pv b) ∧ (∀ b, Pv b → M ≤ b) ∧ Below w.heap.size w W
theorem pv_ge {M : Nat} {Pv Pv' : Nat → Prop} {A B : World} (h : ∀ b, Pv b → M ≤ b) (hA : M ≤ A.heap.size) (hp : ∀ b, Pv' b → (Pv b ∨ A.heap.size ≤ b) ∧ b < B.heap.size) : ∀ b, Pv' b → M ≤ b := fun b hb => by
  rcases (hp b hb).1 with h' | h'
  · exact h b h'
  · omega
theorem below_keep {w A B : World} {M : Nat} {Pv : Nat → Prop} (h : Below w.heap.size w A) (hM : w.heap.size ≤ M) (hge : ∀ b, Pv b → M ≤ b) (hk : Keep (fun b => ¬ Pv b) A B) : Below w.heap.size w B :=
  h.trans ⟨hk.os, hk.tape, hk.output, hk.size, fun k hk' => hk.block k (Nat.lt_of_lt_of_le hk' h.size) (fun hp => by have := hge k hp; omega)⟩
theorem GtI_abide (w : World) (M : Nat) (hM : w.heap.size + 3 ≤ M) : Abide (fun pre Pv W => GtI w M pre Pv W ∧ M ≤ W.heap.size) := by
  rintro pre Pv Pv' A B ⟨⟨h1, h2, h3, h4, h5⟩, h6⟩ hk hp
  exact ⟨⟨h1, hk.boxed h2 (fun h => by have := h4 _ h; omega), hk.boxed h3 (fun h => by have := h4 _ h; omega), pv_ge h4 h6 hp, below_keep h5 (by omega) h4 hk⟩, Nat.le_trans h6 hk.size⟩
theorem GtX_abide (w : World) (M : Nat) (hM : w.heap.size + 3 ≤ M) (c : Code) : Abide (fun pre Pv W => GtX w M c pre Pv W ∧ M ≤ W.heap.size) := by
  rintro pre Pv Pv' A B ⟨⟨h1, x, q, n, cc, h2, h3, h4, h5, h6, h7, h8⟩, h9⟩ hk hp
  refine ⟨⟨h1, x, q, n, cc, h2, hk.boxed h3 (fun h => by have := h7 _ h; omega), hk.boxed h4 (fun h => by have := h7 _ h; omega), h5.keep hk h6, fun b hb hp' => ?_, pv_ge h7 h9 hp, below_keep h8 (by omega) h7 hk⟩, Nat.le_trans h9 hk.size⟩
  rcases (hp _ hp').1 with h | h
  · exact h6 b hb h
  · have := h5.lt b hb; omega

set_option maxRecDepth 100000 in
set_option maxHeartbeats 4000000 in
theorem Get_any (B : Nat) (q : Option Addr) (n c : Nat) (l : List Fld) (name : List UInt8) (w : World) (h : HdrIn B w q n c l) (hl : n ≤ 1048576) (hs : ∀ f ∈ l, f.1.length ≤ 1048576 ∧ f.2.length ≤ 1048576) (hm : name.length ≤ 1048576) :
    Calls Tryd.prog 17 #[.agg #[.slice q n c], .string ⟨name.toArray⟩] w (GetOut (valuesL l name) w) := by
  refine (callsIn_wide (n := 1)).1 ?_
  refine callsIn_of_wp_marks Tryd.func17 rfl trivial ?_ rfl
  simp only [Tryd.ntmps17, List.size_toArray, List.length_cons, List.length_nil, Nat.reduceAdd, Nat.reduceSub, Array.replicate_succ, Array.replicate_zero, List.push_toArray, List.append_toArray, List.nil_append, List.cons_append]
  obtain ⟨W0, hW0⟩ : ∃ W0, ((w.alloc (.cells #[.slice q n c] 26)).alloc (.cells #[.slice none 0 0] 22)).alloc (.cells #[.bool false] 4) = W0 := ⟨_, rfl⟩
  have b0 : Boxed W0 w.heap.size 26 (.slice q n c) := hW0 ▸ ((Boxed.new w _ _).alloc _).alloc _
  have b1 : Boxed W0 (w.heap.size + 1) 22 (.slice none 0 0) := by
    have := (Boxed.new (w.alloc (.cells #[.slice q n c] 26)) 22 (.slice none 0 0)).alloc (.cells #[.bool false] 4)
    rw [World.size_alloc] at this
    exact hW0 ▸ this
  have b2 : Boxed W0 (w.heap.size + 2) 4 (.bool false) := by
    have := Boxed.new ((w.alloc (.cells #[.slice q n c] 26)).alloc (.cells #[.slice none 0 0] 22)) 4 (.bool false)
    rw [World.size_alloc, World.size_alloc] at this
    exact hW0 ▸ this
  have hB0 : Below w.heap.size w W0 := hW0 ▸ (((Below.refl _ w).alloc (Nat.le_refl _) _).alloc (by simp) _).alloc (by simp only [World.size_alloc]; omega) _
  have con := Values_from B q n c l name w W0 hB0 h hl hs hm
  have x0 := b0.cell
  have HS0 := Lib.hid (show w.heap.size + 3 ≤ W0.heap.size by rw [← hW0]; simp)
  have HW0 := Lib.hid hW0
  generalize valuesL l name = xs at *
  clear hW0 h hs hm
  gi_wp2_with fail
  rw [HW0.out]
  refine ⟨trivial, (callsIn_wide.2 con).mono ?_⟩
  rintro e W1 ⟨gf, lb, RB, rfl, eg, hi, hR, hb⟩
  have B1 := hB0.trans (hb.mono hB0.size)
  have k1 := (Keep.of_below hb).boxed b1 b1.lt
  have k2 := (Keep.of_below hb).boxed b2 b2.lt
  have hM : w.heap.size + 3 ≤ W1.heap.size := Nat.le_trans HS0.out hb.size
  clear con x0 HW0 b0 b1 b2 hb hB0
  gi_wp2
  refine rf_law (gf := gf) (lb := lb) rfl eg hi (Keep.refl _ _) (fun b hb => (hR b hb).1) (fun x args G W h => by obtain ⟨v, rfl, _⟩ := h; rfl)
    (fun pre Pv W => GtI w W1.heap.size pre Pv W ∧ W1.heap.size ≤ W.heap.size) (fun c pre Pv W => GtX w W1.heap.size c pre Pv W ∧ W1.heap.size ≤ W.heap.size) (GtI_abide _ _ hM) (GtX_abide _ _ hM)
    ⟨⟨rfl, k1, k2, fun _ h => h.elim, B1⟩, Nat.le_refl _⟩ ?round ?done ?stop
  case round =>
    rintro ll pre x rest Pv G args Wr hll hxs ⟨⟨rfl, e1, e2, hge, hBl⟩, hWr⟩ hPl hGl hPb hGP ⟨p, rfl, hp, rfl⟩
    obtain ⟨qx, cx, rfl⟩ := hp.form
    gi_wp2
    refine ⟨Keep.refl _ _, fun W2 hk2 hs2 r hr => ?_⟩
    have gx : Keep (fun b => (Value.slice qx x.length cx).ownBlock = some b) Wr W2 := hk2.mono fun b _ hb h => hGl (h ▸ hb)
    have g1 := hk2.boxed e1 (by omega)
    have g2 := hk2.boxed e2 (by omega)
    have hp2 := hp.keep gx (fun _ h => h)
    have hk2' : Keep (fun b => ¬ Pv b) Wr W2 := hk2.mono fun b _ hb h => hb (h ▸ hPl)
    have hB2 := below_keep hBl (by omega) hge hk2'
    have z1 := g1.frozen
    have z2 := g2.frozen
    have c1 := g1.cell
    have c2 := g2.cell
    have hGge : ∀ b, (Value.slice qx x.length cx).ownBlock = some b → W1.heap.size ≤ b := fun b h => hge b (hGP b h)
    have hW2s : W1.heap.size ≤ W2.heap.size := Nat.le_trans hWr (by omega)
    clear hr
    gi_wp2
    have kst : ∀ S : Nat → Prop, ¬ S (w.heap.size + 1) → ¬ S (w.heap.size + 2) → Keep S W2 ((W2.setCell ⟨w.heap.size + 1, 0, none⟩ (.slice qx x.length cx)).setCell ⟨w.heap.size + 1 + 1, 0, none⟩ (.bool true)) := fun S h h' => (Keep.setCell _ _ _ h).trans (Keep.setCell _ _ _ h')
    have r1 := (Keep.setCell (S := fun b => b = w.heap.size + 1) (W2.setCell ⟨w.heap.size + 1, 0, none⟩ (.slice qx x.length cx)) ⟨w.heap.size + 1 + 1, 0, none⟩ (.bool true) (show ¬ w.heap.size + 1 + 1 = w.heap.size + 1 by omega)).boxed (g1.set (.slice qx x.length cx)) rfl
    have r2 := ((Keep.setCell (S := fun b => b = w.heap.size + 2) W2 ⟨w.heap.size + 1, 0, none⟩ (.slice qx x.length cx) (show ¬ w.heap.size + 1 = w.heap.size + 2 by omega)).boxed g2 rfl).set (.bool true)
    have r3 := (kst (fun b => (Value.slice qx x.length cx).ownBlock = some b) (fun h => by have := hGge _ h; omega) (fun h => by have := hGge _ h; omega))
    have r3 := hp2.keep r3 (fun _ h => h)
    have r4 := (hB2.setCell (p := ⟨w.heap.size + 1, 0, none⟩) (Nat.le_succ _) (.slice qx x.length cx)).setCell (p := ⟨w.heap.size + 1 + 1, 0, none⟩) (show w.heap.size ≤ w.heap.size + 1 + 1 by omega) (.bool true)
    have r5 := (kst (fun _ => False) (fun h => h) (fun h => h)).size
    refine ⟨kst _ (fun h => ?_) (fun h => ?_), ⟨rfl, x, qx, x.length, cx, rfl, r1, r2, r3, fun b h h' => h'.2 h, fun b h => hge b h.1, r4⟩, Nat.le_trans hW2s r5⟩
    · rcases h with h | h
      · have h1 := (hR _ h).2; have h2 := HS0.out; omega
      · have := hge _ h.1; omega
    · rcases h with h | h
      · have h1 := (hR _ h).2; have h2 := HS0.out; omega
      · have := hge _ h.1; omega
  case done =>
    rintro D Pv Wd hD hPD hPl ⟨⟨h1, e1, e2, hge, hBl⟩, hWd⟩ hK
    subst h1
    have c1 := e1.cell
    have c2 := e2.cell
    have z1 := e1.frozen
    have z2 := e2.frozen
    have kst : ∀ S : Nat → Prop, ¬ S (w.heap.size + 1) → ¬ S (w.heap.size + 2) → Keep S Wd ((Wd.setCell ⟨w.heap.size + 1, 0, none⟩ (.slice none 0 0)).setCell ⟨w.heap.size + 1 + 1, 0, none⟩ (.bool false)) := fun S h h' => (Keep.setCell _ _ _ h).trans (Keep.setCell _ _ _ h')
    have r1 := (Keep.setCell (S := fun b => b = w.heap.size + 1) (Wd.setCell ⟨w.heap.size + 1, 0, none⟩ (.slice none 0 0)) ⟨w.heap.size + 1 + 1, 0, none⟩ (.bool false) (show ¬ w.heap.size + 1 + 1 = w.heap.size + 1 by omega)).boxed (e1.set (.slice none 0 0)) rfl
    have r2 := ((Keep.setCell (S := fun b => b = w.heap.size + 2) Wd ⟨w.heap.size + 1, 0, none⟩ (.slice none 0 0) (show ¬ w.heap.size + 1 = w.heap.size + 2 by omega)).boxed e2 rfl).set (.bool false)
    have r4 := (hBl.setCell (p := ⟨w.heap.size + 1, 0, none⟩) (Nat.le_succ _) (.slice none 0 0)).setCell (p := ⟨w.heap.size + 1 + 1, 0, none⟩) (show w.heap.size ≤ w.heap.size + 1 + 1 by omega) (.bool false)
    have hKd := (kst (fun b => b = D) (by omega) (by omega)).heap rfl hK
    gi_wp2
    have kp : ∀ (S : Nat → Prop) (W : World), ¬ S D → Keep S W (W.putObj D (.deferred none)) := fun S W h => Keep.putObj _ _ _ h
    refine ⟨by simp, .inl ⟨_, _, rfl, run_takeDeferred hKd, ?_⟩⟩
    refine ⟨_, results_slice_bool rfl _ _ (w.heap.size + 1) (w.heap.size + 2) _ _ rfl rfl ((kp (fun b => b = w.heap.size + 1) _ (by omega)).boxed r1 rfl).cell ((kp (fun b => b = w.heap.size + 2) _ (by omega)).boxed r2 rfl).cell, ?_⟩
    exact ⟨none, 0, 0, rfl, by_nil _, r4.trans ((kp (fun b => b < w.heap.size) _ (by omega)).below r4.size)⟩
  case stop =>
    rintro D cc pre rest Pv Wd hD hPD hPl hxs ⟨⟨rfl, x, qx, nx, cx, rfl, e1, e2, hrow, hnv, hge, hBl⟩, hWd⟩ hK
    have HXS := Lib.hid hxs
    clear hxs
    gi_wp2
    have kp : ∀ (S : Nat → Prop) (W : World), ¬ S D → Keep S W (W.putObj D (.deferred none)) := fun S W h => Keep.putObj _ _ _ h
    refine ⟨by simp, .inl ⟨_, _, rfl, run_takeDeferred hK, ?_⟩⟩
    refine ⟨_, results_slice_bool rfl _ _ (w.heap.size + 1) (w.heap.size + 2) _ _ rfl rfl ((kp (fun b => b = w.heap.size + 1) _ (by omega)).boxed e1 rfl).cell ((kp (fun b => b = w.heap.size + 2) _ (by omega)).boxed e2 rfl).cell, ?_⟩
    have hx : xs = x :: rest := HXS.out
    have hrow2 := hrow.keep (kp (fun b => ¬ Pv b) Wd (fun h => h hPD)) hnv
    refine ⟨qx, nx, cx, by rw [hx]; rfl, ?_, hBl.trans ((kp (fun b => b < w.heap.size) _ (by omega)).below hBl.size)⟩
    rw [hx]
    exact hrow2.by
end Go.Proofs.YtfgjcdjhaihgaaaDoor.Hdr

namespace Go.Proofs.YtfgjcdjhaihgaaaDoor.Hdr
open Go.RowKit Go.Shelf Url
attribute [local go_sem] Oper.semAt_some
set_option linter.unusedVariables false

def AllF (n₀ Bo : Nat) (w : World) (pre : List Fld) (Pv : Nat → Prop) (W : World) : Prop :=
  ∃ v, Boxed W Bo 30 v ∧ W.ownsRow n₀ 56 2 v pre.length (fdV pre) ∧ (∀ b, Pv b → n₀ ≤ b) ∧ ¬ Pv Bo ∧ (∀ b, v.ownBlock = some b → ¬ Pv b) ∧ Below n₀ w W
theorem AllF_abide (n₀ Bo : Nat) (w : World) (hn : n₀ ≤ w.heap.size) : Abide (AllF n₀ Bo w) := by
  rintro pre Pv Pv' A B ⟨v, h1, h2, h3, h4, h5, h6⟩ hk hp
  have hs := h6.size
  refine ⟨v, hk.boxed h1 h4, hk.row h2 h5, fun b hb => ?_, fun hb => ?_, fun b hb hp' => ?_, h6.trans ⟨hk.os, hk.tape, hk.output, hk.size, fun k hk' => hk.block k (by omega) (fun hpk => by have := h3 k hpk; omega)⟩⟩
  · rcases (hp b hb).1 with h | h
    · exact h3 b h
    · omega
  · rcases (hp _ hb).1 with h | h
    · exact h4 h
    · have := h1.lt; omega
  · rcases (hp _ hp').1 with h | h
    · exact h5 b hb h
    · have := (h2.lt b hb).2; omega

set_option maxRecDepth 100000 in
set_option maxHeartbeats 8000000 in
theorem allF_any (gf : Nat) (lb : Array Value) (xs : List Fld) (RB : Nat → Prop) (w : World) (eg : ∀ args w, (callFunc gf args).run Tryd.prog w = .ok (.enter gf args) w)
    (hi : IterC Tryd.prog gf lb FldArg xs RB w) (hRs : ∀ b, RB b → b < w.heap.size) (hN : xs.length ≤ 1048576) (hL : ∀ x ∈ xs, x.1.length ≤ 1073741824 ∧ x.2.length ≤ 1073741824) :
    Calls Tryd.prog 11 #[.func (.func gf) #[] lb] w fun e w' => ∃ v, e = .returned v ∧ w'.ownsRow w.heap.size 56 2 v xs.length (fdV xs) ∧ Below w.heap.size w w' := by
  obtain ⟨i0, hi0, hz0, hz1, hz2⟩ := info_parts info_fld
  refine (callsIn_wide (n := 1)).1 ?_
  refine callsIn_of_wp_marks Tryd.func11 rfl trivial ?_ rfl
  simp only [Tryd.ntmps11, List.size_toArray, List.length_cons, List.length_nil, Nat.reduceAdd, Nat.reduceSub, Array.replicate_succ, Array.replicate_zero, List.push_toArray, List.append_toArray, List.nil_append, List.cons_append]
  gi_wp2
  have bO := Boxed.new w 30 (.slice none 0 0)
  obtain ⟨W0, hW0⟩ : ∃ W0, w.alloc (.cells #[.slice none 0 0] 30) = W0 := ⟨_, rfl⟩
  rw [hW0] at bO ⊢
  have hB0 : Below w.heap.size w W0 := hW0 ▸ (Below.refl _ w).alloc (Nat.le_refl _) _
  have hs0 : W0.heap.size = w.heap.size + 1 := by rw [← hW0]; simp
  clear hW0
  refine rf_law (gf := gf) (lb := lb) rfl eg hi ((Keep.of_below hB0).mono fun b _ hb => hRs b hb) (fun b hb => by have := hRs b hb; omega) (fun x args G W h => by obtain ⟨p, r, rfl, _⟩ := h; rfl)
    (AllF w.heap.size w.heap.size w) (fun _ _ _ _ => False) (AllF_abide _ _ _ (Nat.le_refl _)) (fun _ _ _ _ _ _ h _ _ => h)
    ⟨_, bO, World.ownsRow_nil _ _ _ _, (fun _ h => h.elim), (fun h => h), (fun _ h => by cases h), hB0⟩ ?round ?done ?stop
  case round =>
    rintro ll pre ⟨a, x⟩ rest Pv G args Wr hll hxs ⟨v, hbx, hrow, hge, hnB, hnv, hBl⟩ hPl hGl hPb hGP ⟨pa, pr, rfl, hpa, hpr, rfl⟩
    obtain ⟨hal, hxl⟩ := hL (a, x) (by rw [hxs]; simp)
    simp only at hpa hpr hal hxl
    obtain ⟨qa, ca, rfl⟩ := hpa.form
    obtain ⟨q, c, rfl⟩ := hpr.form
    have hlen : pre.length + rest.length + 1 = xs.length := by rw [hxs]; simp; omega
    have hrl : ∀ b, (Value.slice q x.length c).ownBlock = some b → b < Wr.heap.size := hpr.lt
    have hvl : ∀ b, v.ownBlock = some b → b < Wr.heap.size := fun b hb => (hrow.lt b hb).2
    have hBsz := hBl.size
    have hbol := hbx.lt
    gi_wp2
    refine ⟨Keep.alloc _ _ _, fun W2 hk2 hs2 r hr => ?_⟩
    have hka := Keep.alloc (fun _ => True) Wr (.cells #[.slice qa a.length ca, .slice q x.length c] 54)
    have hll2 := hPb ll hPl
    have gf0 : W2.heap[Wr.heap.size]? = some (.cells #[.slice qa a.length ca, .slice q x.length c] 54) := hk2.heap (show Wr.heap.size ≠ ll by omega) (World.alloc_heap_new Wr _)
    have hk2' : Keep (fun b => ¬ Pv b) Wr W2 := (hka.mono fun _ _ _ => trivial).trans (hk2.mono fun b _ hb h => hb (h ▸ hPl))
    have gx : Keep (fun b => (Value.slice qa a.length ca).ownBlock = some b ∨ (Value.slice q x.length c).ownBlock = some b) Wr W2 := (hka.mono fun _ _ _ => trivial).trans (hk2.mono fun b _ hb h => hGl (h ▸ hb))
    replace hbx := hk2'.boxed hbx hnB
    replace hrow := hk2'.row hrow hnv
    replace hpr := hpr.keep gx (fun _ h => .inr h)
    have hbsa2 : Lib.BytesIn W2 qa a.length (Lib.numsL a) := (hpa.keep gx (fun _ h => .inl h)).by.at.2.2.2.2
    have hbs2 : Lib.BytesIn W2 q x.length (Lib.numsL x) := hpr.by.at.2.2.2.2
    have hBl2 : Below w.heap.size w W2 := hBl.trans ((hk2'.mono fun b hb h hpb => by have := hge b hpb; omega).below hBl.size)
    have hcva := hbsa2.convert (P := Tryd.prog) (Lib.numsL_length a) ca 22 5 9 Tryd.underlying22 Tryd.underlying5 Tryd.underlying9
    have hcv := hbs2.convert (P := Tryd.prog) (Lib.numsL_length x) c 22 5 9 Tryd.underlying22 Tryd.underlying5 Tryd.underlying9
    rw [strOfNums_numsL] at hcv hcva
    have cB := hbx.cell
    have fB := hbx.frozen
    have hszB := hBl2.size
    have hpl : pre.length + 1 ≤ 1048576 := by omega
    have hPl2 : ∀ b, Pv b → b < W2.heap.size := fun b hb => Nat.lt_of_lt_of_le (hPb b hb) hk2'.size
    have hszr : Wr.heap.size < W2.heap.size := by
      have := (Array.getElem?_eq_some_iff.1 gf0).1; exact this
    have xf0 : W2.cell? ⟨Wr.heap.size, 0, none⟩ = some (.slice qa a.length ca) := by simp [World.cell?, gf0]
    have xf1 : W2.cell? ⟨Wr.heap.size, 1, none⟩ = some (.slice q x.length c) := by simp [World.cell?, gf0]
    clear hs2 hxs hlen hBl hr hk2' gx hk2 hka hpa
    gi_wp2_with (gi_at_builtin; go_must (refine wpListIn_append_own_at _ rfl _ _ 30 rfl w.heap.size 56 i0 (.agg #[.string ⟨#[]⟩, .string ⟨#[]⟩]) 2 32 Tryd.underlying30 hi0 hz0 hz1 hz2 rfl (by decide) _ _ _ rfl (hrow.alloc _) ⟨W2.heap.size, 0, none⟩ 1 1 [.string ⟨a.toArray⟩, .string ⟨x.toArray⟩] rfl rfl (cell_two_new _ _ _ _) (by simp [Value.oneCell']) (by unfold maxLen; omega) (by omega) (by simp; omega) ?_); intro v' w1 hown' hgrow _ hat; obtain ⟨g', cap', rfl⟩ := ownsRow_succ hown'; obtain ⟨hv1, hv2, hr2, hk2, hb2⟩ := hbx.appended (by decide) hrow hszB (Nat.le_refl _) hown' hgrow; have hc1 := hv1.cell; have hf1 := hv1.frozen; have gf1 := (Keep.of_grownBy (S := fun b => b = Wr.heap.size) hgrow (fun r hr' h => by have := hvl r hr'; omega)).heap rfl ((Keep.alloc (fun b => b = Wr.heap.size) W2 _).heap rfl gf0); have gf2 := (Keep.setCell (S := fun b => b = Wr.heap.size) w1 ⟨w.heap.size, 0, none⟩ (.slice (some ⟨g', 0, none⟩) (pre.length + 1) cap') (by simp; omega)).heap rfl gf1; have yf1 : World.cell? (w1.setCell ⟨w.heap.size, 0, none⟩ (.slice (some ⟨g', 0, none⟩) (pre.length + 1) cap')) ⟨Wr.heap.size, 1, none⟩ = some (.slice q x.length c) := by simp [World.cell?, gf2])
    have hPk : Keep Pv W2 (w1.setCell ⟨w.heap.size, 0, none⟩ (.slice (some ⟨g', 0, none⟩) (pre.length + 1) cap')) :=
      ((Keep.alloc _ W2 _).trans (Keep.of_grownBy hgrow fun r hr' => hnv r hr')).trans (Keep.setCell _ _ _ hnB)
    have hgP : ¬ Pv g' := fun h => by
      rcases hat with h' | h'
      · exact hnv g' h'.symm h
      · have := hPl2 g' h; simp [Value.ownBlock] at h'; omega
    have hrows : Hid (∀ j, j < x.length → ∃ b y, q = some ⟨b, 0, none⟩ ∧ W2.cell? ⟨b, j, none⟩ = some (.int .u8 y) ∧ W2.frozen? ⟨b, j, none⟩ = false) := fun j hj => by
      obtain ⟨g, c', hv, _, _, _, h4⟩ := hpr
      cases hv
      exact ⟨g, _, rfl, (h4 j hj).1, (h4 j hj).2⟩
    obtain ⟨W3, hW3⟩ : ∃ W3, w1.setCell ⟨w.heap.size, 0, none⟩ (.slice (some ⟨g', 0, none⟩) (pre.length + 1) cap') = W3 := ⟨_, rfl⟩
    rw [hW3] at hv2 hr2 hb2 hPk gf2 ⊢
    clear hW3 hk2 hv1 hown' hgrow hc1 hf1 hat cB fB hcv hcva gf1 yf1 xf0 xf1 gf0
    have hG3 : ∀ b, (Value.slice q x.length c).ownBlock = some b → Pv b := fun b h => hGP b (.inr h)
    have hx63 : x.length ≤ 140737488355328 := by omega
    gi_loopw [21] (fun i wr => ∃ k : Nat, k ≤ x.length ∧ i = .int .i64 k ∧ Keep (fun b => ¬ (Value.slice q x.length c).ownBlock = some b) W3 wr ∧ Hid (∀ j, j < x.length → ∃ b y, q = some ⟨b, 0, none⟩ ∧ wr.cell? ⟨b, j, none⟩ = some (.int .u8 y) ∧ wr.frozen? ⟨b, j, none⟩ = false)) (fun i _ => x.length - (intOf i).toNat)
    case atStart =>
      refine ⟨0, Nat.zero_le _, rfl, Keep.refl _ _, fun j hj => ?_⟩
      obtain ⟨b, y, rfl, h1, h2⟩ := hrows.out j hj
      have hPb : Pv b := hG3 b rfl
      have hbl := hPk.block b (World.block_lt_of_cell? W2 _ h1) hPb
      exact ⟨b, y, rfl, (World.cell?_of_block hbl).trans h1, (World.frozen?_of_block hbl).trans h2⟩
    case round =>
      obtain ⟨k, hk, rfl, hKr, HR⟩ := hrel
      have gfr := hKr.heap (fun h => by have := hrl _ h; omega) gf2
      have yf1 : wr.cell? ⟨Wr.heap.size, 1, none⟩ = some (.slice q x.length c) := by simp [World.cell?, gfr]
      by_cases hlt : k < x.length
      · obtain ⟨b, y, rfl, h1, h2⟩ := HR.out k hlt
        gi_wp2
        go_roundw
        case rel =>
          refine ⟨k + 1, by omega, by go_num, hKr.trans (Keep.setCell _ _ _ (fun h => h rfl)), fun j hj => ?_⟩
          obtain ⟨b', y', hb', h1', h2'⟩ := HR.out j hj
          cases hb'
          by_cases hjk : j = k
          · subst hjk
            exact ⟨b, _, rfl, World.cell?_setCell_same' _ _ _ (by rw [h1]; rfl), (World.frozen?_setCell _ _ _ _).trans h2⟩
          · exact ⟨b, y', rfl, (World.cell?_setCell_other _ _ _ _ (by intro h; cases h; exact hjk rfl)).trans h1', (World.frozen?_setCell _ _ _ _).trans h2'⟩
        case measure => simp [intOf]; omega
      · have hpB : ∀ b, (Value.slice q x.length c).ownBlock = some b → w.heap.size ≤ b := fun b h => hge b (hG3 b h)
        gi_wp2
        refine ⟨⟨hKr.os.trans hPk.os, hKr.tape.trans hPk.tape, hKr.output.trans hPk.output, Nat.le_trans hPk.size hKr.size, fun b hb h => ?_⟩, _, hKr.boxed hv2 (fun h => hnB (hG3 _ h)), ?_, fun b hb => hge b hb.1, fun hb => hnB hb.1, fun b hb hb' => ?_, ?_⟩
        · rcases h with h | h
          · have hlt := hRs b h
            exact (hKr.block b (Nat.lt_of_lt_of_le hb hPk.size) (fun h' => by have := hpB b h'; omega)).trans (hb2.block b hlt)
          · exact (hKr.block b (Nat.lt_of_lt_of_le hb hPk.size) (fun h' => h.2.2 h')).trans (hPk.block b hb h.1)
        · rw [List.length_append, fdV_snoc]
          exact hKr.row hr2 (fun b h h' => by cases h; exact hgP (hG3 _ h'))
        · cases hb
          exact hgP hb'.1
        · exact (hBl2.trans hb2).trans ((hKr.mono fun b _ hb h' => by have := hpB b h'; omega).below (Nat.le_trans hBl2.size hb2.size))
  case done =>
    rintro D Pv Wd hD hPD hPl ⟨v, hbx, hrow, hge, hnB, hnv, hBl⟩ hK
    have cB := hbx.cell
    gi_wp2
    refine ⟨by simp, .inl ⟨_, _, rfl, run_takeDeferred hK, ?_⟩⟩
    exact ⟨_, results_tmp rfl _ _ _, v, rfl, (Keep.putObj (S := fun b => ¬ Pv b) Wd D _ (fun h => h hPD)).row hrow hnv, hBl.trans (belowK_b (w := w) (Nat.le_refl _) Wd D _ _ (hge D hPD) hK rfl rfl)⟩
  case stop =>
    rintro D c pre rest Pv Wd _ _ _ _ h _
    exact h.elim

end Go.Proofs.YtfgjcdjhaihgaaaDoor.Hdr

namespace Go.Proofs.YtfgjcdjhaihgaaaDoor.Hdr
open Go.RowKit Go.Shelf Url
attribute [local go_sem] Oper.semAt_some
set_option linter.unusedVariables false

/-- The slice reads as these bytes; they lie below M. -/
def ByU (M : Nat) (w : World) (z : C3) (l : List UInt8) : Prop := By w (vC z) l ∧ ∀ a, z.1 = some a → 0 < z.2.1 → a.block < M
theorem ByU.below {M : Nat} {w w' : World} {z : C3} {l : List UInt8} (h : ByU M w z l) (hb : Below M w w') : ByU M w' z l := by
  obtain ⟨q, n, c⟩ := z
  obtain ⟨h1, h2, h3, h4, h5⟩ := h.1.at
  exact ⟨By.of h1 h2 h3 (fun hq => (h4 hq).2) (bytes_keep h5 (Keep.of_below hb) fun a ha h0 => h.2 a ha h0), h.2⟩
theorem by_keep {S : Nat → Prop} {w w' : World} {q : Option Addr} {n c : Nat} {l : List UInt8} (h : By w (.slice q n c) l) (hk : Keep S w w') (hS : ∀ a, q = some a → 0 < n → S a.block) : By w' (.slice q n c) l := by
  obtain ⟨h1, h2, h3, h4, h5⟩ := h.at
  exact By.of h1 h2 h3 (fun hq => (h4 hq).2) (bytes_keep h5 hk hS)
theorem row_bya {B : Nat} {w : World} {z : C3} {l : List UInt8} (h : w.ownsRow B 5 1 (vC z) l.length (byV l)) : ByA B w z l := ⟨By.row h, fun a ha _ => (h.lt a.block (by unfold vC; rw [ha]; rfl)).1⟩
theorem byU_of {w : World} {q : Option Addr} {n c : Nat} {l : List UInt8} (h : By w (.slice q n c) l) : ByU w.heap.size w (q, n, c) l := ⟨h, fun a ha h0 => by
  obtain ⟨b, o, hq, hc⟩ := h.at.2.2.2.2.at h0
  have h1 : q = some a := ha
  rw [h1] at hq
  cases hq
  exact World.block_lt_of_cell? w _ (hc 0 h0)⟩
theorem line_at (t : List UInt8) : lineL t = chopL (atFst 10 t) ∧ restL t = atSnd 10 t := by
  obtain ⟨h1, h2, h3⟩ := at_ahead 10 t
  unfold lineL restL
  rw [h1, h2]
  refine ⟨rfl, ?_⟩
  cases h : atOk 10 t with
  | true => rfl
  | false => rw [h3 h]; rfl
theorem field_at (l : List UInt8) : fieldL l = (atFst 58 l, trimB (atSnd 58 l)) ∧ ((58 : UInt8) ∈ l ↔ atOk 58 l = true) := by
  obtain ⟨h1, h2, h3⟩ := at_ahead 58 l
  refine ⟨?_, by rw [ok_mem]; simp⟩
  unfold fieldL
  rw [h1, h2]
  cases h : atOk 58 l with
  | true => rfl
  | false => rw [h3 h]; rfl
theorem chop_take (l : List UInt8) : chopL l = l.take (chopL l).length := by
  unfold chopL
  split
  · rw [List.length_dropLast, List.dropLast_eq_take]
  · rw [List.take_length]
theorem nums_byte (l : List UInt8) : ∀ x ∈ Lib.numsL l, 0 ≤ x ∧ x < 256 := fun x hx => by
  obtain ⟨b, _, rfl⟩ := List.mem_map.1 hx
  have := b.toNat_lt
  omega
theorem subA_block {q : Option Addr} {c i : Nat} {a : Addr} (h : subA q c i = some a) : ∃ a0, q = some a0 ∧ a.block = a0.block := by
  unfold subA at h
  split at h
  · exact ⟨a, h, rfl⟩
  · cases q with
    | none => cases h
    | some a0 =>
      cases h
      refine ⟨a0, rfl, ?_⟩
      show (a0.add i).block = a0.block
      unfold Addr.add
      split <;> rfl

/-- bytes.Cut at a line feed. -/
theorem Cut_lf (q : Option Addr) (n c : Nat) (t : List UInt8) (a : Option Addr) (d M : Nat) (X : World) (hG : Ug X) (h : ByU M X (q, n, c) t) (hM : M ≤ X.heap.size) (hs : By X (.slice a 1 d) [10]) (hn : n ≤ 1048576) :
    Calls Tryd.prog 35 #[.slice q n c, .slice a 1 d] X fun e w' => ∃ z1 z2 : C3, e = .returned (.tuple #[vC z1, vC z2, .bool (atOk 10 t)]) ∧ ByU M w' z1 (atFst 10 t) ∧ ByU M w' z2 (atSnd 10 t) ∧ Below X.heap.size X w' := by
  obtain ⟨h1, h2, h3, h4, h5⟩ := h.1.at
  have h1 : t.length = n := h1
  obtain ⟨m, hm⟩ := hG.1
  refine (Tryd.bytes_Cut_all q a n c 1 d (Lib.numsL t) (Lib.numsL [10]) m X (by rw [Lib.numsL_length, h1]) rfl (nums_byte t) (nums_byte [10]) h5 hs.at.2.2.2.2 (fun hq => (h4 hq).2) h2 (by omega) (by omega) hm).mono ?_
  rintro e w' ⟨rfl, k, rfl⟩
  have hb : Below X.heap.size X (X.drewN k) := Go.below_drewN (Below.refl _ _) _
  rw [Lib.bytesOf_numsL, Lib.bytesOf_numsL, Lib.index_one]
  by_cases h0 : 0 ≤ Lib.indexByte t 10
  · obtain ⟨i, hi⟩ : ∃ i : Nat, Lib.indexByte t 10 = (i : Int) := ⟨(Lib.indexByte t 10).toNat, by omega⟩
    obtain ⟨e1, e2, e3⟩ := at_found 10 t i hi
    have hlt := index_lt t 10
    rw [hi] at hlt
    have hin : i < n := by omega
    rw [hi, e1, e2, e3]
    have y1 := by_take h.1 (Nat.le_of_lt hin)
    have y2 := h.1.sub (i := i + 1) (j := n) (by omega) (Nat.le_refl _)
    rw [show sub t (i + 1) n = t.drop (i + 1) by rw [← h1]; exact sub_from t (i + 1)] at y2
    refine ⟨(q, i, c), (subA q c (i + 1), n - (i + 1), c - (i + 1)), ?_, ⟨y1.on hb, fun a ha _ => h.2 a ha (by show 0 < n; omega)⟩, ⟨y2.on hb, fun a ha h' => ?_⟩, hb⟩
    · unfold Lib.cutV
      rw [if_pos (by omega)]
      rfl
    · obtain ⟨a0, h6, h7⟩ := subA_block ha
      rw [h7]
      exact h.2 a0 h6 (by show 0 < n; omega)
  · have hge := Lib.indexByte_ge t 10
    have hi : Lib.indexByte t 10 = -1 := by omega
    obtain ⟨e1, e2, e3⟩ := at_none 10 t hi
    rw [hi, e1, e2, e3]
    exact ⟨(q, n, c), (none, 0, 0), rfl, h.below (hb.mono hM), ⟨by_nil _, fun _ h => by cases h⟩, hb⟩
theorem chop_suffix (l : List UInt8) : Lib.hasSuffix l [13] = true ↔ l.getLast? = some 13 := by
  show List.isSuffixOf [13] l = true ↔ _
  rw [List.isSuffixOf_iff_suffix]
  refine ⟨fun ⟨t, ht⟩ => by rw [← ht]; simp, fun h => ?_⟩
  obtain ⟨ys, rfl⟩ := List.getLast?_eq_some_iff.1 h
  exact ⟨ys, rfl⟩
/-- bytes.TrimSuffix at a carriage return. -/
theorem Trim_cr (q : Option Addr) (n c : Nat) (l : List UInt8) (a : Option Addr) (d : Nat) (X : World) (h : By X (.slice q n c) l) (hs : By X (.slice a 1 d) [13]) :
    Calls Tryd.prog 36 #[.slice q n c, .slice a 1 d] X fun e w' => e = .returned (.slice q (chopL l).length c) ∧ w' = X := by
  obtain ⟨h1, h2, h3, h4, h5⟩ := h.at
  refine (Tryd.bytes_TrimSuffix_all q a n c 1 d (Lib.numsL l) (Lib.numsL [13]) X (by rw [Lib.numsL_length, h1]) rfl h2 (Nat.le_trans h2 (by unfold maxLen at h3; exact h3)) h5 hs.at.2.2.2.2).mono ?_
  rintro e w' ⟨rfl, rfl⟩
  refine ⟨?_, rfl⟩
  by_cases h0 : 0 < n
  · obtain ⟨b, o, rfl, _⟩ := h5.at h0
    show Ending.returned (Lib.bytesTrimSuffix b o n c (Lib.numsL l) (Lib.numsL [13])) = _
    unfold Lib.bytesTrimSuffix
    rw [Lib.bytesOf_numsL, Lib.bytesOf_numsL]
    by_cases hl : l.getLast? = some 13
    · rw [if_pos ((chop_suffix l).2 hl)]
      have : (chopL l).length = n - 1 := by unfold chopL; rw [if_pos hl, List.length_dropLast, h1]
      rw [this]
      rfl
    · rw [if_neg (fun h => hl ((chop_suffix l).1 h))]
      have : (chopL l).length = n := by unfold chopL; rw [if_neg hl, h1]
      rw [this]
  · have hn0 : n = 0 := by omega
    subst hn0
    obtain rfl : l = [] := List.eq_nil_of_length_eq_zero h1
    have hl : (chopL []).length = 0 := by decide
    rw [hl]
    unfold Lib.trimSuffixV
    split
    · unfold Lib.bytesTrimSuffix
      rw [if_neg (by decide)]
    · rfl

set_option maxRecDepth 100000 in
set_option maxHeartbeats 4000000 in
theorem nextLine_any (q : Option Addr) (n c : Nat) (t : List UInt8) (M : Nat) (w : World) (hG : Ug w) (h : ByU M w (q, n, c) t) (hM : M ≤ w.heap.size) (hn : n ≤ 1048576) :
    Calls Tryd.prog 23 #[.slice q n c] w fun e w' => ∃ z1 z2 : C3, e = .returned (.tuple #[vC z1, vC z2]) ∧ ByU M w' z1 (lineL t) ∧ ByU M w' z2 (restL t) ∧ Below w.heap.size w w' := by
  have hb1 : Below w.heap.size w (w.alloc (.cells #[.int .u8 10] 5)) := (Below.refl _ w).alloc (Nat.le_refl _) _
  have con := Cut_lf q n c t _ 1 M _ (hG.on hb1) (h.below (hb1.mono hM)) (Nat.le_trans hM hb1.size) (by_lit w #[.int .u8 10] [10] (0, 0) 1 rfl rfl (by decide)) hn
  have HL := Lib.hid (line_at t)
  have hM' := hM
  generalize atFst 10 t = L at *
  generalize atSnd 10 t = R at *
  generalize atOk 10 t = ok at *
  clear h hG
  go_enter Tryd.func23, Tryd.ntmps23
  go_wp2_with fail
  refine con.mono ?_
  rintro e w2 ⟨⟨q1, n1, c1⟩, ⟨q2, n2, c2⟩, rfl, hz1, hz2, hb⟩
  have B2 := hb1.trans (hb.mono hb1.size)
  have hb3 : Below w2.heap.size w2 (w2.alloc (.cells #[.int .u8 13] 5)) := (Below.refl _ w2).alloc (Nat.le_refl _) _
  have hM2 : M ≤ w2.heap.size := Nat.le_trans hM B2.size
  have y1 := hz1.below (hb3.mono hM2)
  have y2 := hz2.below (hb3.mono hM2)
  have B3 := B2.trans (hb3.mono B2.size)
  have con2 := Trim_cr q1 n1 c1 L _ 1 _ y1.1 (by_lit w2 #[.int .u8 13] [13] (0, 0) 1 rfl rfl (by decide))
  have hlen : (chopL L).length ≤ n1 := by
    have h1 : L.length = n1 := y1.1.at.1
    have := chop_len L
    omega
  have HY1 := Lib.hid (show ByU M (w2.alloc (.cells #[.int .u8 13] 5)) (q1, (chopL L).length, c1) (chopL L) from ⟨by
    have := by_take y1.1 hlen
    rwa [← chop_take L] at this, fun a ha h0 => y1.2 a ha (by show 0 < n1; have : 0 < (chopL L).length := h0; omega)⟩)
  have HY2 := Lib.hid y2
  generalize (chopL L).length = m at *
  clear con hb hb1 hz1 hz2 hb3 B2 y1 y2 hlen
  simp only [vC]
  go_wp2_with fail
  refine con2.mono ?_
  rintro e w4 ⟨rfl, hw⟩
  subst hw
  clear con2
  go_wp2
  go_ret2
  exact ⟨(q1, m, c1), (q2, n2, c2), rfl, by rw [HL.out.1]; exact HY1.out, by rw [HL.out.2]; exact HY2.out, B3⟩

/-- What a line says; without a colon it has no name. -/
def fieldO (l : List UInt8) : Fld := if (58 : UInt8) ∈ l then fieldL l else ([], [])
set_option maxRecDepth 100000 in
set_option maxHeartbeats 4000000 in
theorem fieldOf_any (q : Option Addr) (n c : Nat) (l : List UInt8) (w : World) (h : By w (.slice q n c) l) (hn : n ≤ 1048576) :
    Calls Tryd.prog 25 #[.slice q n c] w fun e w' => ∃ z1 z2 : C3, e = .returned (.agg #[vC z1, vC z2]) ∧ ByA w.heap.size w' z1 (fieldO l).1 ∧ ByA w.heap.size w' z2 (fieldO l).2 ∧ Below w.heap.size w w' := by
  obtain ⟨W0, hW0⟩ : ∃ Z, w.alloc (.cells #[.slice none 0 0, .slice none 0 0] 54) = Z := ⟨_, rfl⟩
  have hb0 : Below w.heap.size w W0 := hW0 ▸ (Below.refl _ w).alloc (Nat.le_refl _) _
  have f0 : FB2 w.heap.size #[.slice none 0 0, .slice none 0 0] W0 := hW0 ▸ FB2.new w _
  have hs0 := Lib.hid (show w.heap.size + 1 ≤ W0.heap.size by rw [← hW0]; simp)
  obtain ⟨h1, h2, h3, h4, h5⟩ := (h.on hb0).at
  have con := At_any q n c l 58 W0 h1 (by omega) h2 h4 h5
  have HF := Lib.hid (show fieldO l = if atOk 58 l = true then (atFst 58 l, trimB (atSnd 58 l)) else ([], []) by
    unfold fieldO
    rw [(field_at l).1]
    by_cases hm : (58 : UInt8) ∈ l
    · rw [if_pos hm, if_pos ((field_at l).2.1 hm)]
    · rw [if_neg hm, if_neg (fun hh => hm ((field_at l).2.2 hh))])
  have hl2 : (atSnd 58 l).length ≤ 1048576 := by
    have h1' := (at_ahead 58 l).2.1
    have h2' := len_tail 58 l
    have h3' := (at_ahead 58 l).2.2
    cases hh : atOk 58 l with
    | true => rw [h1', hh, if_pos rfl] at h2'; simp at h2'; omega
    | false => rw [h3' hh]; simp
  generalize fieldO l = F at *
  generalize atFst 58 l = x at *
  generalize atSnd 58 l = y at *
  generalize atOk 58 l = ok at *
  have HW0 := Lib.hid hW0
  clear h h1 h2 h3 h4 h5 hW0
  go_enter Tryd.func25, Tryd.ntmps25
  go_wp2_with fail
  rw [HW0.out]
  refine con.mono ?_
  rintro e w2 ⟨v1, v2, rfl, hr1, hr2, hb⟩
  obtain ⟨q1, c1, rfl, _⟩ := row_open hr1
  obtain ⟨q2, c2, rfl, _⟩ := row_open hr2
  have B2 := hb0.trans (hb.mono hb0.size)
  have f2 := f0.on hb
  have hs2 := hb.size
  replace hr1 := row_base hr1 hs0.out
  replace hr2 := row_base hr2 hs0.out
  clear con hb hb0 f0 HW0
  cases ok with
  | false =>
    have HF2 := Lib.hid (show F = ([], []) by rw [HF.out]; rfl)
    have kf0 := f2.frozen 0
    have kf1 := f2.frozen 1
    have z0 := f2.cell 0 _ rfl
    have z1 := f2.cell 1 _ rfl
    obtain ⟨Y, hY, bY, hkY, hBY⟩ := f2.put (.slice none 0 0) (.slice none 0 0)
    have BY := B2.trans (hBY _ (Nat.le_refl _))
    have HY := Lib.hid hY
    clear hY hr1 hr2 HF
    go_wp2
    rw [HY.out]
    refine bodyPost_ret (ret_fld rfl _ _ w.heap.size _ rfl bY rfl) rfl ?_
    exact ⟨(none, 0, 0), (none, 0, 0), rfl, by rw [HF2.out]; exact ByA.nil _ _, by rw [HF2.out]; exact ByA.nil _ _, BY⟩
  | true =>
    have HF2 := Lib.hid (show F = (x, trimB y) by rw [HF.out]; rfl)
    obtain ⟨f, ee, htr⟩ := trims y
    have hYv := By.row hr2
    have con := cutTrim_any q2 _ c2 f ee y w2 hYv.at.1 (by omega) hYv.at.2.1 hYv.at.2.2.2.2 htr
    rw [← trim_sub y f ee htr] at con
    generalize trimB y = yy at *
    clear HF hr2 hYv htr hl2
    go_wp2_with fail
    refine con.mono ?_
    rintro e w3 ⟨v5, rfl, hr5, hb⟩
    obtain ⟨q5, c5, rfl, _⟩ := row_open hr5
    have B3 := B2.trans (hb.mono B2.size)
    have f3 := f2.on hb
    replace hr5 := row_base hr5 (Nat.le_trans hs0.out hs2)
    replace hr1 := (Keep.of_below hb).row hr1 (fun b h => (hr1.lt b h).2)
    have kf0 := f3.frozen 0
    have kf1 := f3.frozen 1
    have z0 := f3.cell 0 _ rfl
    have z1 := f3.cell 1 _ rfl
    obtain ⟨Y, hY, bY, hkY, hBY⟩ := f3.put (.slice q1 x.length c1) (.slice q5 yy.length c5)
    have BY := B3.trans (hBY _ (Nat.le_refl _))
    have g1 := (hkY (fun b => b ≠ w.heap.size) (by simp)).row hr1 (fun k h => by have := (hr1.lt k h).1; omega)
    have g5 := (hkY (fun b => b ≠ w.heap.size) (by simp)).row hr5 (fun k h => by have := (hr5.lt k h).1; omega)
    have HY := Lib.hid hY
    clear con hb hY hr1 hr5 B2 f2
    go_wp2
    rw [HY.out]
    refine bodyPost_ret (ret_fld rfl _ _ w.heap.size _ rfl bY rfl) rfl ?_
    exact ⟨(q1, x.length, c1), (q5, yy.length, c5), rfl, by rw [HF2.out]; exact row_bya (row_base g1 (Nat.le_succ _)), by rw [HF2.out]; exact row_bya (row_base g5 (Nat.le_succ _)), BY⟩

theorem trim_same (v : List UInt8) : (((trimB v).length : Int) == (v.length : Int)) = decide (trimB v = v) := by
  rw [Bool.eq_iff_iff, beq_iff_eq, decide_eq_true_iff]
  refine ⟨fun h => ?_, fun h => by rw [h]⟩
  have hs : List.Sublist (trimB v) v := by
    unfold trimB
    have h1 := (List.dropWhile_sublist (p := blankB) (l := (v.dropWhile blankB).reverse)).reverse
    rw [List.reverse_reverse] at h1
    exact h1.trans (List.dropWhile_sublist _)
  exact hs.eq_of_length (by omega)
theorem field_is (f : Fld) : fieldB f = (tokL f.1 && (!crB f.2 && decide (trimB f.2 = f.2))) := by
  unfold fieldB crB
  cases tokL f.1 <;> cases decide (trimB f.2 = f.2) <;> cases f.2.contains 13 <;> cases f.2.contains 10 <;> rfl

set_option maxRecDepth 100000 in
set_option maxHeartbeats 8000000 in
theorem isField_any (q1 : Option Addr) (n1 c1 : Nat) (x : List UInt8) (q2 : Option Addr) (n2 c2 : Nat) (y : List UInt8) (w : World) (hG : Ug w) (h1 : By w (.slice q1 n1 c1) x) (h2 : By w (.slice q2 n2 c2) y) (l1 : n1 ≤ 1048576) (l2 : n2 ≤ 1048576) :
    Calls Tryd.prog 37 #[.agg #[.slice q1 n1 c1, .slice q2 n2 c2]] w fun e w' => e = .returned (.bool (fieldB (x, y))) ∧ Below w.heap.size w w' := by
  obtain ⟨W, hW⟩ : ∃ Z, w.alloc (.cells #[.slice q1 n1 c1, .slice q2 n2 c2] 54) = Z := ⟨_, rfl⟩
  have A0 : Below w.heap.size w W := hW ▸ (Below.refl _ w).alloc (Nat.le_refl _) _
  have g0 : FB2 w.heap.size #[.slice q1 n1 c1, .slice q2 n2 c2] W := hW ▸ FB2.new w _
  obtain ⟨W2, hW2⟩ : ∃ Z, W.drew = Z := ⟨_, rfl⟩
  have hd : Below W.heap.size W W2 := hW2 ▸ ⟨rfl, rfl, rfl, Nat.le_refl _, fun _ _ => rfl⟩
  have A := A0.trans (hd.mono A0.size)
  have g2 := g0.on hd
  have x0 := g2.cell 0 _ rfl
  have x1 := g2.cell 1 _ rfl
  have y1 := h1.on A
  have hG2 := hG.on A
  have hv2 := h2.on A
  have HT := Lib.hid (Token_any q1 n1 c1 x W2 y1.at.1 (by omega) y1.at.2.2.2.2)
  have HC := Lib.hid (fun X (hb : Below W2.heap.size W2 X) => ContainsAny_cr q2 n2 c2 y X (hG2.on hb) (hv2.on hb) (by omega))
  obtain ⟨f, ee, htr⟩ := trims y
  have HM := Lib.hid (show ∀ X (hb : Below W2.heap.size W2 X), Calls Tryd.prog 39 #[.slice q2 n2 c2] X fun e' w' => ∃ v', e' = .returned v' ∧ w'.ownsRow X.heap.size 5 1 v' (trimB y).length ((Lib.numsL (trimB y)).map (Value.int .u8)) ∧ Below X.heap.size X w' from fun X hb => by
    have hy := (hv2.on hb).at
    have := cutTrim_any q2 n2 c2 f ee y X hy.1 (by omega) hy.2.1 hy.2.2.2.2 htr
    rwa [← trim_sub y f ee htr] at this)
  have HF := Lib.hid (show fieldB (x, y) = (tokL x && (!crB y && decide (trimB y = y))) from field_is (x, y))
  have HS := Lib.hid (show (((trimB y).length : Int) == (n2 : Int)) = decide (trimB y = y) by rw [← hv2.at.1]; exact trim_same y)
  generalize fieldB (x, y) = R at *
  obtain ⟨P1, hP1⟩ : ∃ p, tokL x = p := ⟨_, rfl⟩
  obtain ⟨P2, hP2⟩ : ∃ p, crB y = p := ⟨_, rfl⟩
  obtain ⟨P3, hP3⟩ : ∃ p, decide (trimB y = y) = p := ⟨_, rfl⟩
  rw [hP1] at HT HF
  rw [hP2] at HC HF
  rw [hP3] at HF HS
  generalize trimB y = T at *
  have HW := Lib.hid hW
  have HW2 := Lib.hid hW2
  have HG2 := Lib.hid g2
  have HA := Lib.hid A
  clear hW hW2 hd A0 g0 hP1 hP2 hP3 h1 h2 y1 hG hG2 hv2 htr A g2
  go_enter Tryd.func37, Tryd.ntmps37
  go_wp2_with fail
  rw [HW.out]
  refine pregion_any (fun X => X.cell? ⟨w.heap.size, 0, none⟩ = some (.slice q1 n1 c1) ∧ X.cell? ⟨w.heap.size, 1, none⟩ = some (.slice q2 n2 c2)) (by kernel_rfl) ?_
  rw [HW2.out]
  refine wpAnyH_take (i := 0) (v := (.pointer (some ⟨w.heap.size, 0, none⟩))) rfl (by kernel_rfl) (by kernel_rfl) (by kernel_rfl) (fun _ _ _ h => h) (.inl ⟨by kernel_rfl, ?_⟩) ⟨x0, x1⟩ ?_
  · rintro w ⟨h1, h2⟩; go_simp <;> omega
  refine plist #[true, false, false, false, false, false, false, false, false, false, false, false, false, false, false, false, false, false, false, false] (by kernel_rfl) ?_
  refine wpAnyH_take (i := 1) (v := (.slice q1 n1 c1)) rfl (by kernel_rfl) (by kernel_rfl) (by kernel_rfl) (fun _ _ _ h => h) (.inl ⟨by kernel_rfl, ?_⟩) ⟨x0, x1⟩ ?_
  · rintro w ⟨h1, h2⟩; go_simp <;> omega
  refine plist #[true, true, false, false, false, false, false, false, false, false, false, false, false, false, false, false, false, false, false, false] (by kernel_rfl) ?_
  have con := HT.out
  refine pone 2 (by kernel_rfl) rfl fun K hK => ?_
  go_simp
  refine con.mono ?_
  rintro e w9 ⟨rfl, rfl⟩
  clear con
  refine hK _ _ ⟨x0, x1⟩ ?_
  clear hK K
  cases P1 with
  | false =>
    refine plist #[true, true, true, false, false, false, false, false, false, false, false, false, false, false, false, false, false, false, false, false] (by kernel_rfl) ?_
    refine pone 3 (by kernel_rfl) rfl fun K hK => ?_
    go_simp
    refine hK _ _ ⟨x0, x1⟩ ?_
    clear hK K
    refine plist #[true, true, true, true, false, false, false, false, false, false, false, false, false, false, false, false, false, false, false, false] (by kernel_rfl) ?_
    refine wpAnyH_take (i := 4) (v := (undef)) rfl (by kernel_rfl) (by kernel_rfl) (by kernel_rfl) (fun _ _ _ h => h) (.inr ⟨by kernel_rfl, rfl⟩) ⟨x0, x1⟩ ?_
    refine plist #[true, true, true, true, true, false, false, false, false, false, false, false, false, false, false, false, false, false, false, false] (by kernel_rfl) ?_
    refine wpAnyH_take (i := 5) (v := (undef)) rfl (by kernel_rfl) (by kernel_rfl) (by kernel_rfl) (fun _ _ _ h => h) (.inr ⟨by kernel_rfl, rfl⟩) ⟨x0, x1⟩ ?_
    refine plist #[true, true, true, true, true, true, false, false, false, false, false, false, false, false, false, false, false, false, false, false] (by kernel_rfl) ?_
    refine wpAnyH_take (i := 6) (v := (undef)) rfl (by kernel_rfl) (by kernel_rfl) (by kernel_rfl) (fun _ _ _ h => h) (.inr ⟨by kernel_rfl, rfl⟩) ⟨x0, x1⟩ ?_
    refine plist #[true, true, true, true, true, true, true, false, false, false, false, false, false, false, false, false, false, false, false, false] (by kernel_rfl) ?_
    refine wpAnyH_take (i := 7) (v := (undef)) rfl (by kernel_rfl) (by kernel_rfl) (by kernel_rfl) (fun _ _ _ h => h) (.inr ⟨by kernel_rfl, rfl⟩) ⟨x0, x1⟩ ?_
    refine plist #[true, true, true, true, true, true, true, true, false, false, false, false, false, false, false, false, false, false, false, false] (by kernel_rfl) ?_
    refine pone 8 (by kernel_rfl) rfl fun K hK => ?_
    go_simp
    refine hK _ _ ⟨x0, x1⟩ ?_
    clear hK K
    refine plist #[true, true, true, true, true, true, true, true, true, false, false, false, false, false, false, false, false, false, false, false] (by kernel_rfl) ?_
    refine pone 9 (by kernel_rfl) rfl fun K hK => ?_
    go_simp
    refine hK _ _ ⟨x0, x1⟩ ?_
    clear hK K
    refine plist #[true, true, true, true, true, true, true, true, true, true, false, false, false, false, false, false, false, false, false, false] (by kernel_rfl) ?_
    refine wpAnyH_take (i := 10) (v := (undef)) rfl (by kernel_rfl) (by kernel_rfl) (by kernel_rfl) (fun _ _ _ h => h) (.inr ⟨by kernel_rfl, rfl⟩) ⟨x0, x1⟩ ?_
    refine plist #[true, true, true, true, true, true, true, true, true, true, true, false, false, false, false, false, false, false, false, false] (by kernel_rfl) ?_
    refine wpAnyH_take (i := 11) (v := (undef)) rfl (by kernel_rfl) (by kernel_rfl) (by kernel_rfl) (fun _ _ _ h => h) (.inr ⟨by kernel_rfl, rfl⟩) ⟨x0, x1⟩ ?_
    refine plist #[true, true, true, true, true, true, true, true, true, true, true, true, false, false, false, false, false, false, false, false] (by kernel_rfl) ?_
    refine wpAnyH_take (i := 12) (v := (undef)) rfl (by kernel_rfl) (by kernel_rfl) (by kernel_rfl) (fun _ _ _ h => h) (.inr ⟨by kernel_rfl, rfl⟩) ⟨x0, x1⟩ ?_
    refine plist #[true, true, true, true, true, true, true, true, true, true, true, true, true, false, false, false, false, false, false, false] (by kernel_rfl) ?_
    refine wpAnyH_take (i := 13) (v := (undef)) rfl (by kernel_rfl) (by kernel_rfl) (by kernel_rfl) (fun _ _ _ h => h) (.inr ⟨by kernel_rfl, rfl⟩) ⟨x0, x1⟩ ?_
    refine plist #[true, true, true, true, true, true, true, true, true, true, true, true, true, true, false, false, false, false, false, false] (by kernel_rfl) ?_
    refine wpAnyH_take (i := 14) (v := (undef)) rfl (by kernel_rfl) (by kernel_rfl) (by kernel_rfl) (fun _ _ _ h => h) (.inr ⟨by kernel_rfl, rfl⟩) ⟨x0, x1⟩ ?_
    refine plist #[true, true, true, true, true, true, true, true, true, true, true, true, true, true, true, false, false, false, false, false] (by kernel_rfl) ?_
    refine wpAnyH_take (i := 15) (v := (undef)) rfl (by kernel_rfl) (by kernel_rfl) (by kernel_rfl) (fun _ _ _ h => h) (.inr ⟨by kernel_rfl, rfl⟩) ⟨x0, x1⟩ ?_
    refine plist #[true, true, true, true, true, true, true, true, true, true, true, true, true, true, true, true, false, false, false, false] (by kernel_rfl) ?_
    refine wpAnyH_take (i := 16) (v := (undef)) rfl (by kernel_rfl) (by kernel_rfl) (by kernel_rfl) (fun _ _ _ h => h) (.inr ⟨by kernel_rfl, rfl⟩) ⟨x0, x1⟩ ?_
    refine plist #[true, true, true, true, true, true, true, true, true, true, true, true, true, true, true, true, true, false, false, false] (by kernel_rfl) ?_
    refine wpAnyH_take (i := 17) (v := (undef)) rfl (by kernel_rfl) (by kernel_rfl) (by kernel_rfl) (fun _ _ _ h => h) (.inr ⟨by kernel_rfl, rfl⟩) ⟨x0, x1⟩ ?_
    refine plist #[true, true, true, true, true, true, true, true, true, true, true, true, true, true, true, true, true, true, false, false] (by kernel_rfl) ?_
    refine pone 18 (by kernel_rfl) rfl fun K hK => ?_
    go_simp
    refine hK _ _ ⟨x0, x1⟩ ?_
    clear hK K
    refine plist #[true, true, true, true, true, true, true, true, true, true, true, true, true, true, true, true, true, true, true, false] (by kernel_rfl) ?_
    refine pone 19 (by kernel_rfl) rfl fun K hK => ?_
    go_simp
    refine hK _ _ ⟨x0, x1⟩ ?_
    clear hK K
    refine pdone (by kernel_rfl) ?_ _
    clear HT HM HC HS HG2 x0 x1
    go_wp2
    go_ret
    exact ⟨by rw [HF.out]; rfl, HA.out⟩
  | true =>
    refine plist #[true, true, true, false, false, false, false, false, false, false, false, false, false, false, false, false, false, false, false, false] (by kernel_rfl) ?_
    refine pone 3 (by kernel_rfl) rfl fun K hK => ?_
    go_simp
    refine hK _ _ ⟨x0, x1⟩ ?_
    clear hK K
    refine plist #[true, true, true, true, false, false, false, false, false, false, false, false, false, false, false, false, false, false, false, false] (by kernel_rfl) ?_
    refine wpAnyH_take (i := 4) (v := (.pointer (some ⟨w.heap.size, 1, none⟩))) rfl (by kernel_rfl) (by kernel_rfl) (by kernel_rfl) (fun _ _ _ h => h) (.inl ⟨by kernel_rfl, ?_⟩) ⟨x0, x1⟩ ?_
    · rintro w ⟨h1, h2⟩; go_simp <;> omega
    refine plist #[true, true, true, true, true, false, false, false, false, false, false, false, false, false, false, false, false, false, false, false] (by kernel_rfl) ?_
    refine wpAnyH_take (i := 5) (v := (.slice q2 n2 c2)) rfl (by kernel_rfl) (by kernel_rfl) (by kernel_rfl) (fun _ _ _ h => h) (.inl ⟨by kernel_rfl, ?_⟩) ⟨x0, x1⟩ ?_
    · rintro w ⟨h1, h2⟩; go_simp <;> omega
    refine plist #[true, true, true, true, true, true, false, false, false, false, false, false, false, false, false, false, false, false, false, false] (by kernel_rfl) ?_
    have con := HC.out _ (Below.refl _ _)
    refine pone 6 (by kernel_rfl) rfl fun K hK => ?_
    go_simp
    refine con.mono ?_
    rintro e w3 ⟨rfl, hb⟩
    have A3 := HA.out.trans (hb.mono HA.out.size)
    have g3 := HG2.out.on hb
    have x0 := g3.cell 0 _ rfl
    have x1 := g3.cell 1 _ rfl
    have HB3 := Lib.hid hb
    have HA3 := Lib.hid A3
    have HG3 := Lib.hid g3
    clear A3 g3
    clear con hb HC HT
    refine hK _ _ ⟨x0, x1⟩ ?_
    clear hK K
    refine plist #[true, true, true, true, true, true, true, false, false, false, false, false, false, false, false, false, false, false, false, false] (by kernel_rfl) ?_
    refine pone 7 (by kernel_rfl) rfl fun K hK => ?_
    go_simp
    refine hK _ _ ⟨x0, x1⟩ ?_
    clear hK K
    cases P2 with
    | true =>
      refine plist #[true, true, true, true, true, true, true, true, false, false, false, false, false, false, false, false, false, false, false, false] (by kernel_rfl) ?_
      refine pone 8 (by kernel_rfl) rfl fun K hK => ?_
      go_simp
      refine hK _ _ ⟨x0, x1⟩ ?_
      clear hK K
      refine plist #[true, true, true, true, true, true, true, true, true, false, false, false, false, false, false, false, false, false, false, false] (by kernel_rfl) ?_
      refine pone 9 (by kernel_rfl) rfl fun K hK => ?_
      go_simp
      refine hK _ _ ⟨x0, x1⟩ ?_
      clear hK K
      refine plist #[true, true, true, true, true, true, true, true, true, true, false, false, false, false, false, false, false, false, false, false] (by kernel_rfl) ?_
      refine wpAnyH_take (i := 10) (v := (undef)) rfl (by kernel_rfl) (by kernel_rfl) (by kernel_rfl) (fun _ _ _ h => h) (.inr ⟨by kernel_rfl, rfl⟩) ⟨x0, x1⟩ ?_
      refine plist #[true, true, true, true, true, true, true, true, true, true, true, false, false, false, false, false, false, false, false, false] (by kernel_rfl) ?_
      refine wpAnyH_take (i := 11) (v := (undef)) rfl (by kernel_rfl) (by kernel_rfl) (by kernel_rfl) (fun _ _ _ h => h) (.inr ⟨by kernel_rfl, rfl⟩) ⟨x0, x1⟩ ?_
      refine plist #[true, true, true, true, true, true, true, true, true, true, true, true, false, false, false, false, false, false, false, false] (by kernel_rfl) ?_
      refine wpAnyH_take (i := 12) (v := (undef)) rfl (by kernel_rfl) (by kernel_rfl) (by kernel_rfl) (fun _ _ _ h => h) (.inr ⟨by kernel_rfl, rfl⟩) ⟨x0, x1⟩ ?_
      refine plist #[true, true, true, true, true, true, true, true, true, true, true, true, true, false, false, false, false, false, false, false] (by kernel_rfl) ?_
      refine wpAnyH_take (i := 13) (v := (undef)) rfl (by kernel_rfl) (by kernel_rfl) (by kernel_rfl) (fun _ _ _ h => h) (.inr ⟨by kernel_rfl, rfl⟩) ⟨x0, x1⟩ ?_
      refine plist #[true, true, true, true, true, true, true, true, true, true, true, true, true, true, false, false, false, false, false, false] (by kernel_rfl) ?_
      refine wpAnyH_take (i := 14) (v := (undef)) rfl (by kernel_rfl) (by kernel_rfl) (by kernel_rfl) (fun _ _ _ h => h) (.inr ⟨by kernel_rfl, rfl⟩) ⟨x0, x1⟩ ?_
      refine plist #[true, true, true, true, true, true, true, true, true, true, true, true, true, true, true, false, false, false, false, false] (by kernel_rfl) ?_
      refine wpAnyH_take (i := 15) (v := (undef)) rfl (by kernel_rfl) (by kernel_rfl) (by kernel_rfl) (fun _ _ _ h => h) (.inr ⟨by kernel_rfl, rfl⟩) ⟨x0, x1⟩ ?_
      refine plist #[true, true, true, true, true, true, true, true, true, true, true, true, true, true, true, true, false, false, false, false] (by kernel_rfl) ?_
      refine wpAnyH_take (i := 16) (v := (undef)) rfl (by kernel_rfl) (by kernel_rfl) (by kernel_rfl) (fun _ _ _ h => h) (.inr ⟨by kernel_rfl, rfl⟩) ⟨x0, x1⟩ ?_
      refine plist #[true, true, true, true, true, true, true, true, true, true, true, true, true, true, true, true, true, false, false, false] (by kernel_rfl) ?_
      refine wpAnyH_take (i := 17) (v := (undef)) rfl (by kernel_rfl) (by kernel_rfl) (by kernel_rfl) (fun _ _ _ h => h) (.inr ⟨by kernel_rfl, rfl⟩) ⟨x0, x1⟩ ?_
      refine plist #[true, true, true, true, true, true, true, true, true, true, true, true, true, true, true, true, true, true, false, false] (by kernel_rfl) ?_
      refine pone 18 (by kernel_rfl) rfl fun K hK => ?_
      go_simp
      refine hK _ _ ⟨x0, x1⟩ ?_
      clear hK K
      refine plist #[true, true, true, true, true, true, true, true, true, true, true, true, true, true, true, true, true, true, true, false] (by kernel_rfl) ?_
      refine pone 19 (by kernel_rfl) rfl fun K hK => ?_
      go_simp
      refine hK _ _ ⟨x0, x1⟩ ?_
      clear hK K
      refine pdone (by kernel_rfl) ?_ _
      clear HM HS HG2 x0 x1
      go_wp2
      go_ret
      exact ⟨by rw [HF.out]; rfl, HA3.out⟩
    | false =>
      refine plist #[true, true, true, true, true, true, true, true, false, false, false, false, false, false, false, false, false, false, false, false] (by kernel_rfl) ?_
      refine pone 8 (by kernel_rfl) rfl fun K hK => ?_
      go_simp
      refine hK _ _ ⟨x0, x1⟩ ?_
      clear hK K
      refine plist #[true, true, true, true, true, true, true, true, true, false, false, false, false, false, false, false, false, false, false, false] (by kernel_rfl) ?_
      refine pone 9 (by kernel_rfl) rfl fun K hK => ?_
      go_simp
      refine hK _ _ ⟨x0, x1⟩ ?_
      clear hK K
      refine plist #[true, true, true, true, true, true, true, true, true, true, false, false, false, false, false, false, false, false, false, false] (by kernel_rfl) ?_
      refine wpAnyH_take (i := 10) (v := (.pointer (some ⟨w.heap.size, 1, none⟩))) rfl (by kernel_rfl) (by kernel_rfl) (by kernel_rfl) (fun _ _ _ h => h) (.inl ⟨by kernel_rfl, ?_⟩) ⟨x0, x1⟩ ?_
      · rintro w ⟨h1, h2⟩; go_simp <;> omega
      refine plist #[true, true, true, true, true, true, true, true, true, true, true, false, false, false, false, false, false, false, false, false] (by kernel_rfl) ?_
      refine wpAnyH_take (i := 11) (v := (.slice q2 n2 c2)) rfl (by kernel_rfl) (by kernel_rfl) (by kernel_rfl) (fun _ _ _ h => h) (.inl ⟨by kernel_rfl, ?_⟩) ⟨x0, x1⟩ ?_
      · rintro w ⟨h1, h2⟩; go_simp <;> omega
      refine plist #[true, true, true, true, true, true, true, true, true, true, true, true, false, false, false, false, false, false, false, false] (by kernel_rfl) ?_
      refine wpAnyH_take (i := 14) (v := (.pointer (some ⟨w.heap.size, 1, none⟩))) rfl (by kernel_rfl) (by kernel_rfl) (by kernel_rfl) (fun _ _ _ h => h) (.inl ⟨by kernel_rfl, ?_⟩) ⟨x0, x1⟩ ?_
      · rintro w ⟨h1, h2⟩; go_simp <;> omega
      refine plist #[true, true, true, true, true, true, true, true, true, true, true, true, false, false, true, false, false, false, false, false] (by kernel_rfl) ?_
      refine wpAnyH_take (i := 15) (v := (.slice q2 n2 c2)) rfl (by kernel_rfl) (by kernel_rfl) (by kernel_rfl) (fun _ _ _ h => h) (.inl ⟨by kernel_rfl, ?_⟩) ⟨x0, x1⟩ ?_
      · rintro w ⟨h1, h2⟩; go_simp <;> omega
      refine plist #[true, true, true, true, true, true, true, true, true, true, true, true, false, false, true, true, false, false, false, false] (by kernel_rfl) ?_
      refine wpAnyH_take (i := 16) (v := (.int .i64 (n2 : Int))) rfl (by kernel_rfl) (by kernel_rfl) (by kernel_rfl) (fun _ _ _ h => h) (.inl ⟨by kernel_rfl, ?_⟩) ⟨x0, x1⟩ ?_
      · rintro w ⟨h1, h2⟩; go_simp <;> omega
      refine plist #[true, true, true, true, true, true, true, true, true, true, true, true, false, false, true, true, true, false, false, false] (by kernel_rfl) ?_
      have con := HM.out _ HB3.out
      refine pone 12 (by kernel_rfl) rfl fun K hK => ?_
      go_simp
      refine con.mono ?_
      rintro e w4 ⟨vt, rfl, hr, hb⟩
      obtain ⟨qt, ct, rfl, _⟩ := row_open hr
      have A4 := HA3.out.trans (hb.mono HA3.out.size)
      have g4 := HG3.out.on hb
      have x0 := g4.cell 0 _ rfl
      have x1 := g4.cell 1 _ rfl
      have HA4 := Lib.hid A4
      clear A4 g4 hr
      clear con hb HM
      refine hK _ _ ⟨x0, x1⟩ ?_
      clear hK K
      refine plist #[true, true, true, true, true, true, true, true, true, true, true, true, true, false, true, true, true, false, false, false] (by kernel_rfl) ?_
      refine pone 13 (by kernel_rfl) rfl fun K hK => ?_
      go_simp
      refine hK _ _ ⟨x0, x1⟩ ?_
      clear hK K
      have d3 := HS.out
      refine plist #[true, true, true, true, true, true, true, true, true, true, true, true, true, true, true, true, true, false, false, false] (by kernel_rfl) ?_
      refine pone 17 (by kernel_rfl) rfl fun K hK => ?_
      go_simp
      refine hK _ _ ⟨x0, x1⟩ ?_
      clear hK K
      refine plist #[true, true, true, true, true, true, true, true, true, true, true, true, true, true, true, true, true, true, false, false] (by kernel_rfl) ?_
      refine pone 18 (by kernel_rfl) rfl fun K hK => ?_
      go_simp
      refine hK _ _ ⟨x0, x1⟩ ?_
      clear hK K
      refine plist #[true, true, true, true, true, true, true, true, true, true, true, true, true, true, true, true, true, true, true, false] (by kernel_rfl) ?_
      refine pone 19 (by kernel_rfl) rfl fun K hK => ?_
      go_simp
      refine hK _ _ ⟨x0, x1⟩ ?_
      clear hK K
      refine pdone (by kernel_rfl) ?_ _
      clear HS x0 x1
      go_wp2
      go_ret
      exact ⟨by rw [HF.out]; rfl, HA4.out⟩
end Go.Proofs.YtfgjcdjhaihgaaaDoor.Hdr

namespace Go.Proofs.YtfgjcdjhaihgaaaDoor.Hdr
open Go.RowKit Go.Shelf Url
attribute [local go_sem] Oper.semAt_some
set_option linter.unusedVariables false

/-- A row of bytes does not lie in a field's block. -/
def FB3 (B : Nat) (cs : Array Value) (X : World) : Prop := X.heap[B]? = some (.cells cs 73 (0, 0))
theorem FB3.cell {B : Nat} {cs : Array Value} {X : World} (h : FB3 B cs X) (i : Nat) (x : Value) (hx : cs[i]? = some x) : X.cell? ⟨B, i, none⟩ = some x := by
  simp only [World.cell?, show X.heap[B]? = _ from h]; exact hx
theorem FB3.new (w : World) (cs : Array Value) : FB3 w.heap.size cs (w.alloc (.cells cs 73)) := World.alloc_heap_new w _
theorem row_ne_fb {w : World} {base n B : Nat} {v : Value} {xs : List Value} {cs : Array Value} (h : w.ownsRow base 5 1 v n xs) (hB : FB3 B cs w) : ∀ b, v.ownBlock = some b → b ≠ B := fun b hb e => by
  subst e
  rcases h.2 with ⟨rfl, _⟩ | ⟨g, cap, cur, rfl, _, hg, _⟩
  · cases hb
  · have hgb : g = b := by simpa [Value.ownBlock] using hb
    subst hgb
    rw [show w.heap[g]? = _ from hB] at hg
    cases hg
theorem fb_grown {w w' : World} {base n B : Nat} {v : Value} {xs : List Value} {cs : Array Value} (hB : FB3 B cs w) (h : w.ownsRow base 5 1 v n xs) (hg : w.grownBy w' v.ownBlock) : FB3 B cs w' :=
  (Keep.of_grownBy (S := fun b => b = B) hg (fun r hr e => row_ne_fb h hB r hr e)).heap rfl hB
theorem str_byV (x : List UInt8) : Lib.strCells ⟨x.toArray⟩ = byV x := by
  unfold Lib.strCells byV Lib.numsL
  rw [List.map_map]
  rfl
theorem text_le2 (l : List Fld) (hs : ∀ f ∈ l, f.1.length ≤ 1048576 ∧ f.2.length ≤ 1048576) : (rowsT l).length ≤ l.length * 2097156 := by
  have := text_le 1048576 l hs
  rw [text_rows, List.length_append] at this
  simp only [List.length_cons, List.length_nil] at this
  omega
set_option maxRecDepth 100000 in
set_option maxHeartbeats 8000000 in
theorem Text_any (B : Nat) (q : Option Addr) (n c : Nat) (l : List Fld) (w : World) (h : HdrIn B w q n c l) (hl : n ≤ 64) (hs : ∀ f ∈ l, f.1.length ≤ 1048576 ∧ f.2.length ≤ 1048576) :
    Calls Tryd.prog 14 #[.agg #[.slice q n c]] w fun e w' => ∃ v, e = .returned v ∧ w'.ownsRow w.heap.size 5 1 v (textH l).length (byV (textH l)) ∧ Below w.heap.size w w' := by
  obtain ⟨i0, hi0, hz0, hz1, hz2⟩ := info_parts info_u8
  have hb0 : Below w.heap.size w (w.alloc (.cells #[.slice q n c] 26)) := (Below.refl _ w).alloc (Nat.le_refl _) _
  have k0 := (Boxed.new w 26 (.slice q n c)).cell
  have HZ := Lib.hid h
  have HZL := Lib.hid h.len
  have HS := Lib.hid (show ∀ k, (rowsT (l.take k)).length ≤ 134217984 from fun k => by
    have h1 := text_le2 (l.take k) (fun f hf => hs _ (List.mem_of_mem_take hf))
    have h2 : (l.take k).length ≤ 64 := by rw [List.length_take]; have := h.len; omega
    omega)
  have HSM := Lib.hid hs
  clear h hs
  go_enter Tryd.func14, Tryd.ntmps14
  go_wp2
  clear k0
  go_loopw [3, 9] (fun t i wr => ∃ k m : Nat, k ≤ n ∧ i = .int .i64 k ∧ Hid (m = (rowsT (l.take k)).length) ∧ m ≤ 134217984 ∧ wr.ownsRow w.heap.size 5 1 t m (byV (rowsT (l.take k))) ∧ Below w.heap.size w wr) (fun _ i _ => n - (intOf i).toNat)
  case atStart => exact ⟨0, 0, Nat.zero_le _, rfl, Lib.hid rfl, by omega, World.ownsRow_nil _ _ _ _, hb0⟩
  case round =>
    obtain ⟨k, m, hk, rfl, HM, hm, hrow, hB⟩ := hrel
    have hsz := hB.size
    by_cases hlt : k < n
    · obtain ⟨⟨x, y⟩, hzk⟩ : ∃ z, l[k]? = some z := ⟨_, List.getElem?_eq_getElem (by have := HZL.out; omega)⟩
      have hZ := HZ.out.below hB
      obtain ⟨g, o, rfl, _, hg, hc⟩ := hZ.2.2.2 (by omega)
      obtain ⟨k1, k2⟩ := hc k _ hzk
      have hzm := List.mem_of_getElem? hzk
      obtain ⟨sx, sy⟩ := HSM.out _ hzm
      simp only at k1 k2 sx sy
      have HT := Lib.hid (show rowsT (l.take (k + 1)) = ((rowsT (l.take k) ++ x) ++ [58, 32] ++ y) ++ [13, 10] by
        rw [take_snocF l k (x, y) hzk]
        exact rowsT_snoc _ (x, y))
      have HL := Lib.hid (HS.out (k + 1))
      obtain ⟨T, hT⟩ : ∃ r, rowsT (l.take k) = r := ⟨_, rfl⟩
      rw [hT] at hrow HT HM
      have hbf : Below wr.heap.size wr (wr.alloc (.cells #[.string ⟨x.toArray⟩, .string ⟨y.toArray⟩] 73)) := (Below.refl _ wr).alloc (Nat.le_refl _) _
      have f0 : FB3 wr.heap.size #[.string ⟨x.toArray⟩, .string ⟨y.toArray⟩] (wr.alloc (.cells #[.string ⟨x.toArray⟩, .string ⟨y.toArray⟩] 73)) := FB3.new wr _
      have hrow1 := hrow.alloc (.cells #[.string ⟨x.toArray⟩, .string ⟨y.toArray⟩] 73)
      have B1 := hB.trans (hbf.mono hsz)
      have x01 := f0.cell 0 _ rfl
      clear hZ hc hzk hT hrow hg hzm
      have hll : (rowsT (l.take (k + 1))).length = m + x.length + 2 + y.length + 2 := by rw [HT.out]; simp only [List.length_append, List.length_cons, List.length_nil]; rw [HM.out]
      have HLL := Lib.hid hll
      clear hll
      go_wp2_with (first
        | (at_builtin; refine Lib.wpList_append_own_string _ rfl _ _ 22 9 rfl w.heap.size 5 i0 Tryd.underlying22 Tryd.underlying9 hi0 hz0 hz1 hz2 _ _ _ (by rfl) hrow1 ⟨x.toArray⟩ (by rfl) (by unfold maxLen; show m + x.length ≤ _; omega) (by show m + x.length ≤ _; omega) B1.size ?_; intro v2 w2 hown2 hgrow2 _; have f2 := fb_grown f0 hrow1 hgrow2; have B2 := B1.trans ((grown_below hrow1 hgrow2 B1.size)); have x21 := f2.cell 1 _ rfl)
        | (at_builtin; refine Lib.wpList_append_own_string (w := w2) rfl _ _ 22 9 rfl w.heap.size 5 i0 Tryd.underlying22 Tryd.underlying9 hi0 hz0 hz1 hz2 _ _ _ rfl hown2 ⟨#[58, 32]⟩ rfl (by unfold maxLen; show m + x.length + 2 ≤ _; omega) (by show m + x.length + 2 ≤ _; omega) B2.size ?_; intro v3 w3 hown3 hgrow3 _; have f3 := fb_grown f2 hown2 hgrow3; have B3 := B2.trans ((grown_below hown2 hgrow3 B2.size)); have x31 := f3.cell 1 _ rfl)
        | (at_builtin; refine Lib.wpList_append_own_string (w := w3) rfl _ _ 22 9 rfl w.heap.size 5 i0 Tryd.underlying22 Tryd.underlying9 hi0 hz0 hz1 hz2 _ _ _ rfl hown3 ⟨y.toArray⟩ rfl (by unfold maxLen; show m + x.length + 2 + y.length ≤ _; omega) (by show m + x.length + 2 + y.length ≤ _; omega) B3.size ?_; intro v4 w4 hown4 hgrow4 _; have B4 := B3.trans ((grown_below hown3 hgrow4 B3.size)))
        | (at_builtin; refine Lib.wpList_append_own_string (w := w4) rfl _ _ 22 9 rfl w.heap.size 5 i0 Tryd.underlying22 Tryd.underlying9 hi0 hz0 hz1 hz2 _ _ _ rfl hown4 ⟨#[13, 10]⟩ rfl (by unfold maxLen; show m + x.length + 2 + y.length + 2 ≤ _; omega) (by show m + x.length + 2 + y.length + 2 ≤ _; omega) B4.size ?_; intro v5 w5 hown5 hgrow5 _; have B5 := B4.trans ((grown_below hown4 hgrow5 B4.size))))
      have hfin : w5.ownsRow w.heap.size 5 1 v5 (m + x.length + 2 + y.length + 2) (byV (rowsT (l.take (k + 1)))) := by
        rw [HT.out, byV_app, byV_app, byV_app, byV_app, ← str_byV x, ← str_byV y]
        exact hown5
      have hm2 : m + x.length + 2 + y.length + 2 ≤ 134217984 := by have := HL.out; have := HLL.out; omega
      have HM2 := Lib.hid (show m + x.length + 2 + y.length + 2 = (rowsT (l.take (k + 1))).length from HLL.out.symm)
      go_roundw
      case rel => exact ⟨k + 1, _, by omega, by go_num, HM2, hm2, hfin, B5⟩
      case measure => simp [intOf]; omega
    · obtain rfl : k = n := by omega
      have hall : l.take k = l := List.take_of_length_le (by have := HZL.out; omega)
      rw [hall] at hrow HM
      go_wp2_with (at_builtin; refine Lib.wpList_append_own_string (w := wr) rfl _ _ 22 9 rfl w.heap.size 5 i0 Tryd.underlying22 Tryd.underlying9 hi0 hz0 hz1 hz2 _ _ _ rfl hrow ⟨#[13, 10]⟩ rfl (by unfold maxLen; show m + 2 ≤ _; omega) (by show m + 2 ≤ _; omega) hsz ?_; intro v3 w3 hown3 hgrow3 _)
      have B3 := hB.trans ((grown_below hrow hgrow3 hsz))
      have hfin : w3.ownsRow w.heap.size 5 1 v3 (textH l).length (byV (textH l)) := by
        rw [text_rows, byV_app, List.length_append, ← HM.out]
        exact hown3
      go_ret
      exact ⟨_, rfl, hfin, B3⟩
end Go.Proofs.YtfgjcdjhaihgaaaDoor.Hdr

namespace Go.Proofs.YtfgjcdjhaihgaaaDoor.Hdr
open Go.RowKit Go.Shelf Url
attribute [local go_sem] Oper.semAt_some
set_option linter.unusedVariables false

theorem info_hfl : (Tryd.prog.info? 73).map (fun i => (i.zero, i.size, i.bytes)) = some (some (.agg #[.string ⟨#[]⟩, .string ⟨#[]⟩]), 2, 32) := by kernel_rfl
theorem conv_str {W : World} {q : Option Addr} {n c : Nat} {l : List UInt8} (h : By W (.slice q n c) l) : (convert 22 9 (.slice q n c)).run Tryd.prog W = .ok (.string ⟨l.toArray⟩) W := by
  obtain ⟨h1, _, _, _, h5⟩ := h.at
  have := h5.convert (P := Tryd.prog) ((Lib.numsL_length l).trans h1) c 22 5 9 Tryd.underlying22 Tryd.underlying5 Tryd.underlying9
  rw [strOfNums_numsL] at this
  exact this
theorem hdr_form {w : World} {base n : Nat} {v : Value} {xs : List Value} (h : w.ownsRow base 73 2 v n xs) : ∃ q c, v = .slice q n c := by
  rcases h.2 with ⟨rfl, hm⟩ | ⟨g, cap, cur, rfl, _⟩
  · exact ⟨none, 0, by rw [show n = 0 by assumption]⟩
  · exact ⟨_, _, rfl⟩
/-- 'append(dst, src...)', dst the call's own, at one operation. -/
theorem wp_append_ownH {P : Program} {o : Oper} {a : Act} {w : World} {K : Act → World → Prop} {Q : Exit → Act → World → Prop} (s x : Operand) (t : TypeId)
    (ho : o.op = .call { callee := .builtin .append, args := #[s, x], argTypes := #[t, t] })
    (base : Nat) (e : TypeId) (i : TypeInfo) (z : Value) (size bytes : Nat) (ht : P.underlying t = some (.slice e)) (hi : P.info? e = some i) (hz : i.zero = some z)
    (hsize : i.size = size) (hby : i.bytes = bytes) (hzs : z.cells.size = size) (hsz : 0 < size)
    (v : Value) (n : Nat) (xs : List Value) (hs : a.eval s = v) (hown : w.ownsRow base e size v n xs)
    (ad : Addr) (m c : Nat) (news : List Value) (hx : a.eval x = .slice (some ad) m c) (hl : news.length = m * size) (hnews : ∀ j u, news[j]? = some u → w.cell? (ad.add j) = some u) (h1 : ∀ u ∈ news, u.oneCell' = true)
    (h63 : n + m ≤ maxLen) (hbytes : (n + m) * bytes ≤ 140737488355328) (hbase : base ≤ w.heap.size)
    (h : ∀ v' w', w'.ownsRow base e size v' (n + m) (xs ++ news) → w.grownBy w' v.ownBlock → (v'.ownBlock = v.ownBlock ∨ v'.ownBlock = some w.heap.size) → K (a.put o.dst v') w') : o.wp P a w K Q := by
  obtain ⟨v', w', hr, h2, h3, _, h5⟩ := run_append_own_at (P := P) w base t o.type e i z size bytes ht hi hz hsize hby hzs hsz v n xs hown ad m c news hl hnews h1 h63 hbytes hbase
  unfold Oper.wp execOp
  simp only [ho, resolve, invoke, builtin, Sem.run_bind, Sem.run_pure, Result.andThen_ok, List.map_toArray, List.map_cons, List.map_nil, hs, hx, hr]
  exact h v' w' h2 h3 h5

def addL (l : List Fld) (f : Fld) : List Fld := if wrongF f l.length = 0 then l ++ [f] else l
/-- What add does: block b holds the header's row, which is the caller's own and lies at B or above. -/
def AddOut (b B : Nat) (v : Value) (l : List Fld) (f : Fld) (w : World) (e : Ending) (w' : World) : Prop :=
  ∃ v', e = .returned (.int .i64 (wrongF f l.length)) ∧ Boxed w' b 26 v' ∧ w'.ownsRow B 73 2 v' (addL l f).length (fdV (addL l f)) ∧ Below b w w' ∧ Keep (fun k => k ≠ b ∧ v.ownBlock ≠ some k) w w'

set_option maxRecDepth 100000 in
set_option maxHeartbeats 16000000 in
theorem add_any (b B : Nat) (v : Value) (l : List Fld) (q1 : Option Addr) (n1 c1 : Nat) (x : List UInt8) (q2 : Option Addr) (n2 c2 : Nat) (y : List UInt8) (w : World) (hG : Ug w) (e1 : Boxed w b 26 v) (hrow : w.ownsRow B 73 2 v l.length (fdV l)) (hbB : b < B) (hBw : B ≤ w.heap.size)
    (h1 : By w (.slice q1 n1 c1) x) (h2 : By w (.slice q2 n2 c2) y) (l1 : n1 ≤ 1048576) (l2 : n2 ≤ 1048576) (hl : l.length ≤ 64) (ha1 : ∀ a, q1 = some a → 0 < n1 → a.block ≠ b ∧ v.ownBlock ≠ some a.block) (ha2 : ∀ a, q2 = some a → 0 < n2 → a.block ≠ b ∧ v.ownBlock ≠ some a.block) :
    Calls Tryd.prog 24 #[.pointer (some ⟨b, 0, none⟩), .agg #[.slice q1 n1 c1, .slice q2 n2 c2]] w (AddOut b B v l (x, y) w) := by
  obtain ⟨i0, hi0, hz0, hz1, hz2⟩ := info_parts info_hfl
  obtain ⟨qv, cv, rfl⟩ := hdr_form hrow
  obtain ⟨n, hn⟩ : ∃ n, l.length = n := ⟨_, rfl⟩
  have HN := Lib.hid hn
  rw [hn] at hrow e1 hl ha1 ha2 ⊢
  have hbl := e1.lt
  obtain ⟨W1, hW1⟩ : ∃ Z, w.alloc (.cells #[.slice q1 n1 c1, .slice q2 n2 c2] 54) = Z := ⟨_, rfl⟩
  have hb1 : Below w.heap.size w W1 := hW1 ▸ (Below.refl _ w).alloc (Nat.le_refl _) _
  have f1 : FB2 w.heap.size #[.slice q1 n1 c1, .slice q2 n2 c2] W1 := hW1 ▸ FB2.new w _
  have con := isField_any q1 n1 c1 x q2 n2 c2 y W1 (hG.on hb1) (h1.on hb1) (h2.on hb1) l1 l2
  have x0 := f1.cell 0 _ rfl
  have x1 := f1.cell 1 _ rfl
  have HY1 := Lib.hid h1
  have HY2 := Lib.hid h2
  have HROW := Lib.hid hrow
  have HE1 := Lib.hid e1
  have HW1 := Lib.hid hW1
  have HA1 := Lib.hid ha1
  have HA2' := Lib.hid ha2
  have HO := Lib.hid (show ∀ k, (Value.slice qv n cv).ownBlock = some k → B ≤ k ∧ k < w.heap.size from fun k hk => hrow.lt k hk)
  obtain ⟨P, hP⟩ : ∃ p, fieldB (x, y) = p := ⟨_, rfl⟩
  have HWF := Lib.hid (show wrongF (x, y) n = if P = true then (if 64 ≤ n then 3 else 0) else 2 by rw [← hP]; rfl)
  rw [hP] at con
  have HADD := Lib.hid (show addL l (x, y) = if wrongF (x, y) n = 0 then l ++ [(x, y)] else l by unfold addL; rw [HN.out])
  have hkall : ∀ w', Below w.heap.size w w' → Keep (fun k => k ≠ b ∧ (Value.slice qv n cv).ownBlock ≠ some k) w w' := fun w' hb => (Keep.of_below hb).mono fun k hk _ => hk
  have HKA := Lib.hid hkall
  unfold AddOut
  rw [HN.out]
  generalize wrongF (x, y) n = E at *
  clear hW1 hP h1 h2 hrow e1 hG hkall hn ha1 ha2
  go_enter Tryd.func24, Tryd.ntmps24
  go_wp2_with fail
  rw [HW1.out]
  refine con.mono ?_
  rintro e w3 ⟨rfl, hb⟩
  have B3 := hb1.trans (hb.mono hb1.size)
  have e3 := (Keep.of_below B3).boxed HE1.out HE1.out.lt
  have hrow3 := (Keep.of_below B3).row HROW.out (fun k hk => (HROW.out.lt k hk).2)
  have f3 := f1.on hb
  clear con hb hb1 x0 x1 f1 HW1
  cases P with
  | false =>
    have HE := Lib.hid (show E = 2 by rw [HWF.out]; rfl)
    have HA2 := Lib.hid (show addL l (x, y) = l by rw [HADD.out, if_neg (by rw [HE.out]; decide)])
    have hr3 := Lib.hid hrow3
    clear hrow3
    go_wp2
    go_ret
    refine ⟨_, by rw [HE.out]; rfl, e3, ?_, B3.mono (Nat.le_of_lt hbl), HKA.out _ B3⟩
    rw [HA2.out, HN.out]
    exact hr3.out
  | true =>
    have c0 := e3.cell
    by_cases h64 : n = 64
    · have d : ((n : Int) == 64) = true := by rw [h64]; rfl
      have HE := Lib.hid (show E = 3 by rw [HWF.out, if_pos rfl, if_pos (by omega)])
      have HA2 := Lib.hid (show addL l (x, y) = l by rw [HADD.out, if_neg (by rw [HE.out]; decide)])
      have hr3 := Lib.hid hrow3
      clear hrow3 h64
      go_wp2
      go_ret
      refine ⟨_, by rw [HE.out]; rfl, e3, ?_, B3.mono (Nat.le_of_lt hbl), HKA.out _ B3⟩
      rw [HA2.out, HN.out]
      exact hr3.out
    · have d : ((n : Int) == 64) = false := by simp; omega
      have HE := Lib.hid (show E = 0 by rw [HWF.out, if_pos rfl, if_neg (by omega)])
      have HA2 := Lib.hid (show addL l (x, y) = l ++ [(x, y)] by rw [HADD.out, if_pos HE.out])
      obtain ⟨w4, hw4⟩ : ∃ Z, w3.drew = Z := ⟨_, rfl⟩
      have hb : Below w3.heap.size w3 w4 := hw4 ▸ ⟨rfl, rfl, rfl, Nat.le_refl _, fun _ _ => rfl⟩
      have B4 := B3.trans (hb.mono B3.size)
      have e4 := (Keep.of_below hb).boxed e3 e3.lt
      have hrow4 := (Keep.of_below hb).row hrow3 (fun k hk => (hrow3.lt k hk).2)
      have f4 := f3.on hb
      have hH := e4.cell
      have x0 := f4.cell 0 _ rfl
      have x1 := f4.cell 1 _ rfl
      have y1 := HY1.out.on B4
      have y2 := HY2.out.on B4
      have HW4 := Lib.hid hw4
      have HHL := Lib.hid hl
      have hs4 := B4.size
      clear hw4 hb e3 hrow3 f3 B3 h64 hl
      go_wp2_with fail
      refine region_anyQ (fun j => decide (j ≠ 16)) (fun X => X.cell? ⟨b, 0, none⟩ = some (.slice qv n cv) ∧ X.cell? ⟨w.heap.size, 0, none⟩ = some (.slice q1 n1 c1) ∧ X.cell? ⟨w.heap.size, 1, none⟩ = some (.slice q2 n2 c2) ∧ By X (.slice q1 n1 c1) x ∧ By X (.slice q2 n2 c2) y) (by kernel_rfl) ?_
      rw [HW4.out]
      refine anyQ_take 0 (v := (.pointer (some ⟨b, 0, none⟩))) rfl (by kernel_rfl) (by kernel_rfl) (by kernel_rfl) (by kernel_rfl) (fun _ _ _ h => h) (.inl ⟨by kernel_rfl, ?_⟩) ⟨hH, x0, x1, y1, y2⟩ ?_
      · rintro w ⟨h1, h2, h3, h4, h5⟩; have k4 := conv_str h4; have k5 := conv_str h5; go_simp <;> omega
      refine anyQ_list #[true, false, false, false, false, false, false, false, false, false, false, false, false, false, false, false, false] (by kernel_rfl) ?_
      refine anyQ_take 1 (v := (.pointer (some ⟨b, 0, none⟩))) rfl (by kernel_rfl) (by kernel_rfl) (by kernel_rfl) (by kernel_rfl) (fun _ _ _ h => h) (.inl ⟨by kernel_rfl, ?_⟩) ⟨hH, x0, x1, y1, y2⟩ ?_
      · rintro w ⟨h1, h2, h3, h4, h5⟩; have k4 := conv_str h4; have k5 := conv_str h5; go_simp <;> omega
      refine anyQ_list #[true, true, false, false, false, false, false, false, false, false, false, false, false, false, false, false, false] (by kernel_rfl) ?_
      refine anyQ_take 2 (v := (.pointer (some ⟨b, 0, none⟩))) rfl (by kernel_rfl) (by kernel_rfl) (by kernel_rfl) (by kernel_rfl) (fun _ _ _ h => h) (.inl ⟨by kernel_rfl, ?_⟩) ⟨hH, x0, x1, y1, y2⟩ ?_
      · rintro w ⟨h1, h2, h3, h4, h5⟩; have k4 := conv_str h4; have k5 := conv_str h5; go_simp <;> omega
      refine anyQ_list #[true, true, true, false, false, false, false, false, false, false, false, false, false, false, false, false, false] (by kernel_rfl) ?_
      refine anyQ_take 3 (v := (.pointer (some ⟨b, 0, none⟩))) rfl (by kernel_rfl) (by kernel_rfl) (by kernel_rfl) (by kernel_rfl) (fun _ _ _ h => h) (.inl ⟨by kernel_rfl, ?_⟩) ⟨hH, x0, x1, y1, y2⟩ ?_
      · rintro w ⟨h1, h2, h3, h4, h5⟩; have k4 := conv_str h4; have k5 := conv_str h5; go_simp <;> omega
      refine anyQ_list #[true, true, true, true, false, false, false, false, false, false, false, false, false, false, false, false, false] (by kernel_rfl) ?_
      refine anyQ_take 4 (v := (.slice qv n cv)) rfl (by kernel_rfl) (by kernel_rfl) (by kernel_rfl) (by kernel_rfl) (fun _ _ _ h => h) (.inl ⟨by kernel_rfl, ?_⟩) ⟨hH, x0, x1, y1, y2⟩ ?_
      · rintro w ⟨h1, h2, h3, h4, h5⟩; have k4 := conv_str h4; have k5 := conv_str h5; go_simp <;> omega
      refine anyQ_list #[true, true, true, true, true, false, false, false, false, false, false, false, false, false, false, false, false] (by kernel_rfl) ?_
      refine anyQ_take 5 (v := (.pointer (some ⟨w.heap.size, 0, none⟩))) rfl (by kernel_rfl) (by kernel_rfl) (by kernel_rfl) (by kernel_rfl) (fun _ _ _ h => h) (.inl ⟨by kernel_rfl, ?_⟩) ⟨hH, x0, x1, y1, y2⟩ ?_
      · rintro w ⟨h1, h2, h3, h4, h5⟩; have k4 := conv_str h4; have k5 := conv_str h5; go_simp <;> omega
      refine anyQ_list #[true, true, true, true, true, true, false, false, false, false, false, false, false, false, false, false, false] (by kernel_rfl) ?_
      refine anyQ_take 6 (v := (.slice q1 n1 c1)) rfl (by kernel_rfl) (by kernel_rfl) (by kernel_rfl) (by kernel_rfl) (fun _ _ _ h => h) (.inl ⟨by kernel_rfl, ?_⟩) ⟨hH, x0, x1, y1, y2⟩ ?_
      · rintro w ⟨h1, h2, h3, h4, h5⟩; have k4 := conv_str h4; have k5 := conv_str h5; go_simp <;> omega
      refine anyQ_list #[true, true, true, true, true, true, true, false, false, false, false, false, false, false, false, false, false] (by kernel_rfl) ?_
      refine anyQ_take 7 (v := (.string ⟨x.toArray⟩)) rfl (by kernel_rfl) (by kernel_rfl) (by kernel_rfl) (by kernel_rfl) (fun _ _ _ h => h) (.inl ⟨by kernel_rfl, ?_⟩) ⟨hH, x0, x1, y1, y2⟩ ?_
      · rintro w ⟨h1, h2, h3, h4, h5⟩; have k4 := conv_str h4; have k5 := conv_str h5; go_simp <;> omega
      refine anyQ_list #[true, true, true, true, true, true, true, true, false, false, false, false, false, false, false, false, false] (by kernel_rfl) ?_
      refine anyQ_take 8 (v := (.pointer (some ⟨w.heap.size, 1, none⟩))) rfl (by kernel_rfl) (by kernel_rfl) (by kernel_rfl) (by kernel_rfl) (fun _ _ _ h => h) (.inl ⟨by kernel_rfl, ?_⟩) ⟨hH, x0, x1, y1, y2⟩ ?_
      · rintro w ⟨h1, h2, h3, h4, h5⟩; have k4 := conv_str h4; have k5 := conv_str h5; go_simp <;> omega
      refine anyQ_list #[true, true, true, true, true, true, true, true, true, false, false, false, false, false, false, false, false] (by kernel_rfl) ?_
      refine anyQ_take 9 (v := (.slice q2 n2 c2)) rfl (by kernel_rfl) (by kernel_rfl) (by kernel_rfl) (by kernel_rfl) (fun _ _ _ h => h) (.inl ⟨by kernel_rfl, ?_⟩) ⟨hH, x0, x1, y1, y2⟩ ?_
      · rintro w ⟨h1, h2, h3, h4, h5⟩; have k4 := conv_str h4; have k5 := conv_str h5; go_simp <;> omega
      refine anyQ_list #[true, true, true, true, true, true, true, true, true, true, false, false, false, false, false, false, false] (by kernel_rfl) ?_
      refine anyQ_take 10 (v := (.string ⟨y.toArray⟩)) rfl (by kernel_rfl) (by kernel_rfl) (by kernel_rfl) (by kernel_rfl) (fun _ _ _ h => h) (.inl ⟨by kernel_rfl, ?_⟩) ⟨hH, x0, x1, y1, y2⟩ ?_
      · rintro w ⟨h1, h2, h3, h4, h5⟩; have k4 := conv_str h4; have k5 := conv_str h5; go_simp <;> omega
      refine anyQ_list #[true, true, true, true, true, true, true, true, true, true, true, false, false, false, false, false, false] (by kernel_rfl) ?_
      refine anyQ_take 11 (v := (.agg #[.string ⟨x.toArray⟩, .string ⟨y.toArray⟩])) rfl (by kernel_rfl) (by kernel_rfl) (by kernel_rfl) (by kernel_rfl) (fun _ _ _ h => h) (.inl ⟨by kernel_rfl, ?_⟩) ⟨hH, x0, x1, y1, y2⟩ ?_
      · rintro w ⟨h1, h2, h3, h4, h5⟩; have k4 := conv_str h4; have k5 := conv_str h5; go_simp <;> omega
      refine anyQ_list #[true, true, true, true, true, true, true, true, true, true, true, true, false, false, false, false, false] (by kernel_rfl) ?_
      have cn := cell_two_new w4 (.string ⟨x.toArray⟩) (.string ⟨y.toArray⟩) 73
      have hbn : Below w4.heap.size w4 (w4.alloc (.cells #[.string ⟨x.toArray⟩, .string ⟨y.toArray⟩] 73)) := (Below.refl _ w4).alloc (Nat.le_refl _) _
      have hH5 := cell_on hH hbn
      have f5 := f4.on hbn
      refine anyQ_one 12 (by kernel_rfl) rfl fun K hK => ?_
      go_simp
      refine hK _ _ (fun _ => ⟨hH5, f5.cell 0 _ rfl, f5.cell 1 _ rfl, y1.on hbn, y2.on hbn⟩) ?_
      clear hK K
      refine anyQ_list #[true, true, true, true, true, true, true, true, true, true, true, true, true, false, false, false, false] (by kernel_rfl) ?_
      refine anyQ_one 13 (by kernel_rfl) rfl fun K hK => ?_
      rw [if_pos (by rfl)]
      have hl64 := HHL.out
      refine wp_append_ownH _ _ 24 rfl B 73 i0 (.agg #[.string ⟨#[]⟩, .string ⟨#[]⟩]) 2 32 Tryd.underlying24 hi0 hz0 hz1 hz2 rfl (by decide) _ _ _ rfl (hrow4.alloc _) ⟨w4.heap.size, 0, none⟩ 1 1 [.string ⟨x.toArray⟩, .string ⟨y.toArray⟩] rfl rfl cn (by simp [Value.oneCell']) (by unfold maxLen; omega) (by omega) (by simp; omega) ?_
      intro v8 w8 hown8 hgrow8 hat
      obtain ⟨g', cap', rfl⟩ := ownsRow_succ hown8
      obtain ⟨hv1, hv2, _, _, hb2⟩ := e4.appended (by decide) (row_base hrow4 (Nat.le_of_lt hbB)) (by omega) (Nat.le_refl _) (row_base hown8 (Nat.le_of_lt hbB)) hgrow8
      have hne : ∀ r, (Value.slice qv n cv).ownBlock = some r → r < w.heap.size := fun r hr => (HO.out r hr).2
      have f8 : FB2 w.heap.size #[.slice q1 n1 c1, .slice q2 n2 c2] w8 := (Keep.of_grownBy (S := fun k => k = w.heap.size) hgrow8 (fun r hr e => by have := hne r hr; omega)).heap rfl f5
      have xH8 := hv1.cell
      have zH8 := hv1.frozen
      have y8 : By w8 (.slice q1 n1 c1) x ∧ By w8 (.slice q2 n2 c2) y := by
        have hkg : Keep (fun k => k ≠ b ∧ (Value.slice qv n cv).ownBlock ≠ some k) (w4.alloc (.cells #[.string ⟨x.toArray⟩, .string ⟨y.toArray⟩] 73)) w8 := Keep.of_grownBy hgrow8 (fun r hr h => h.2 hr)
        exact ⟨by_keep (y1.on hbn) hkg HA1.out, by_keep (y2.on hbn) hkg HA2'.out⟩
      refine hK _ _ (fun _ => ⟨xH8, f8.cell 0 _ rfl, f8.cell 1 _ rfl, y8.1, y8.2⟩) ?_
      clear hK K
      refine anyQ_list #[true, true, true, true, true, true, true, true, true, true, true, true, true, true, false, false, false] (by kernel_rfl) ?_
      refine anyQ_one 14 (by kernel_rfl) rfl fun K hK => ?_
      go_simp
      refine hK _ _ (fun _ => ⟨xH8, f8.cell 0 _ rfl, f8.cell 1 _ rfl, y8.1, y8.2⟩) ?_
      clear hK K
      refine anyQ_list #[true, true, true, true, true, true, true, true, true, true, true, true, true, true, true, false, false] (by kernel_rfl) ?_
      refine anyQ_one 15 (by kernel_rfl) rfl fun K hK => ?_
      go_simp
      refine hK _ _ (fun _ => ⟨xH8, f8.cell 0 _ rfl, f8.cell 1 _ rfl, y8.1, y8.2⟩) ?_
      clear hK K
      refine anyQ_list #[true, true, true, true, true, true, true, true, true, true, true, true, true, true, true, true, false] (by kernel_rfl) ?_
      have hkF : Keep (fun k => k ≠ b ∧ (Value.slice qv n cv).ownBlock ≠ some k) w4 (w8.setCell ⟨b, 0, none⟩ (.slice (some ⟨g', 0, none⟩) (n + 1) cap')) :=
        ((Keep.alloc _ w4 _).trans (Keep.of_grownBy hgrow8 (fun r hr h => h.2 hr))).trans (Keep.setCell _ _ _ (fun h => h.1 rfl))
      have rowF := (Keep.setCell (S := fun k => k ≠ b) w8 ⟨b, 0, none⟩ (.slice (some ⟨g', 0, none⟩) (n + 1) cap') (by simp)).row hown8 (fun k hk => by have := (hown8.lt k hk).1; omega)
      have BF := (B4.mono (Nat.le_of_lt hbl)).trans hb2
      have hKF := (HKA.out _ B4).trans hkF
      have HRF := Lib.hid rowF
      clear rowF hown8 hgrow8 hrow4 hkF
      refine anyQ_one 16 (by kernel_rfl) rfl fun K hK => ?_
      go_simp
      refine hK _ _ (fun h => by simp at h) ?_
      clear hK K
      refine anyQ_done (by kernel_rfl) ?_ _
      go_wp2
      go_ret
      refine ⟨_, by rw [HE.out]; rfl, hv2, ?_, BF, hKF⟩
      rw [HA2.out, List.length_append, fdV_snoc, HN.out]
      exact HRF.out
end Go.Proofs.YtfgjcdjhaihgaaaDoor.Hdr

namespace Go.Proofs.YtfgjcdjhaihgaaaDoor.Hdr
open Go.RowKit Go.Shelf Url
attribute [local go_sem] Oper.semAt_some
set_option linter.unusedVariables false

theorem ret_hdr3 {fn : Func} {p u x : Tmp} (h : fn.results = #[.cell p 26, .tmp u, .tmp x]) (tmps : Array Value) (w : World) (B : Nat) (v : Value) (hp : tmps.getD p undef = .pointer (some ⟨B, 0, none⟩)) (hU : Boxed w B 26 v) :
    (results fn tmps).run Tryd.prog w = .ok (.tuple #[.agg #[v], tmps.getD u undef, tmps.getD x undef]) w := by
  have hp' : tmps[p]?.getD undef = .pointer (some ⟨B, 0, none⟩) := by simpa using hp
  simp [results, h, hp', asAddr, Result.andThen, run_loadVar_row w B 26 _ #[v] (0, 0) _ hU Tryd.underlying26 rfl (by kernel_rfl)]
def sliceNH : Value → Nat
  | .slice _ n _ => n
  | _ => 0
theorem wrong_nil (n : Nat) : wrongF ([], []) n = 2 := by unfold wrongF; rw [if_neg (by decide)]
theorem step_line (out : List Fld) (t : List UInt8) (h : t ≠ []) : goH t.length out t = if lineL t = [] then .inr (out, restL t) else if wrongF (fieldO (lineL t)) out.length = 0 then goH (restL t).length (out ++ [fieldO (lineL t)]) (restL t) else .inl (wrongF (fieldO (lineL t)) out.length) := by
  rw [goH_step out t h]
  unfold fieldO
  by_cases hm : (58 : UInt8) ∈ lineL t
  · simp only [if_pos hm]
  · simp only [if_neg hm, wrong_nil]
    rfl
theorem fieldO_len (l : List UInt8) : (fieldO l).1.length ≤ l.length ∧ (fieldO l).2.length ≤ l.length := by
  unfold fieldO
  split
  · exact ⟨len_ahead 58 l, Nat.le_trans (len_trim _) (len_tail 58 l)⟩
  · simp
theorem line_len (t : List UInt8) : (lineL t).length ≤ t.length := Nat.le_trans (chop_len _) (len_ahead 10 t)
/-- Where the loop stands: t is what is left, out what was read. -/
def PaI (w : World) (l : List UInt8) (t : Value) (wr : World) : Prop :=
  ∃ (q0 : Option Addr) (n0 c0 : Nat) (tl : List UInt8) (out : List Fld) (v : Value), t = .slice q0 n0 c0 ∧ ByU w.heap.size wr (q0, n0, c0) tl ∧ n0 ≤ 1048576 ∧ Hid (goH l.length [] l = goH tl.length out tl) ∧ Boxed wr w.heap.size 26 (.slice none 0 0) ∧ Boxed wr (w.heap.size + 1) 26 v ∧
    wr.ownsRow (w.heap.size + 2) 73 2 v out.length (fdV out) ∧ out.length ≤ 64 ∧ Below w.heap.size w wr ∧ w.heap.size + 2 ≤ wr.heap.size

set_option maxRecDepth 100000 in
set_option maxHeartbeats 16000000 in
theorem Parse_any (q : Option Addr) (n c : Nat) (l : List UInt8) (w : World) (hG : Ug w) (h : By w (.slice q n c) l) (hn : n ≤ 1048576) :
    Calls Tryd.prog 8 #[.slice q n c] w (ParseOut (parseH l) w) := by
  obtain ⟨W0, hW0⟩ : ∃ W, (w.alloc (.cells #[.slice none 0 0] 26)).alloc (.cells #[.slice none 0 0] 26) = W := ⟨_, rfl⟩
  have A0 : Below w.heap.size w W0 := hW0 ▸ ((Below.refl _ w).alloc (Nat.le_refl _) _).alloc (by simp) _
  have b0 : Boxed W0 w.heap.size 26 (.slice none 0 0) := hW0 ▸ (Boxed.new w _ _).alloc _
  have b1 : Boxed W0 (w.heap.size + 1) 26 (.slice none 0 0) := by
    have := Boxed.new (w.alloc (.cells #[.slice none 0 0] 26)) 26 (.slice none 0 0)
    rw [World.size_alloc] at this
    exact hW0 ▸ this
  have hs0 : w.heap.size + 2 ≤ W0.heap.size := by rw [← hW0]; simp
  have hI : PaI w l (.slice q n c) W0 := ⟨q, n, c, l, [], _, rfl, (byU_of h).below A0, hn, Lib.hid rfl, b0, b1, World.ownsRow_nil _ _ _ _, by simp, A0, hs0⟩
  have HP := Lib.hid (show parseH l = goH l.length [] l from rfl)
  have HW0 := Lib.hid hW0
  have HGU := Lib.hid hG
  generalize parseH l = R at *
  clear hW0 A0 b0 b1 hs0 h hn hG
  go_enter Tryd.func8, Tryd.ntmps8
  go_wp2_with fail
  rw [HW0.out]
  go_loopw [0] (fun t wr => PaI w l t wr) (fun t _ => sliceNH t)
  case atStart => exact hI
  case round =>
    obtain ⟨q0, n0, c0, tl, out, v, rfl, hY, hn0, HG, e0, e1, hrow, hzs, hB, hsz⟩ := hrel
    clear hI HW0
    by_cases ht : n0 = 0
    · subst ht
      obtain rfl : tl = [] := List.eq_nil_of_length_eq_zero hY.1.at.1
      have HR := Lib.hid (show R = .inr (out, []) by rw [HP.out, HG.out, goH_nil])
      clear HG HP
      have HTM := Lib.hid (show 0 ≤ 1048576 by omega)
      have HTQ := Lib.hid (show ([] : List UInt8).length = 0 from rfl)
      obtain ⟨qv, cv, rfl, HH, _⟩ := hdr_open hrow rfl
      obtain ⟨wd, hwd⟩ : ∃ Z, wr.drew = Z := ⟨_, rfl⟩
      have hb : Below wr.heap.size wr wd := hwd ▸ ⟨rfl, rfl, rfl, Nat.le_refl _, fun _ _ => rfl⟩
      have Bd := hB.trans (hb.mono hB.size)
      replace e0 := (Keep.of_below hb).boxed e0 e0.lt
      replace e1 := (Keep.of_below hb).boxed e1 e1.lt
      replace HH := HH.below hb
      have hY2 := hY.below (hb.mono hB.size)
      have xH := e1.cell
      have HWD := Lib.hid hwd
      have hszd := Nat.le_trans hsz hb.size
      have HCL := Lib.hid (Clone_any q0 0 c0 [] wd hY2.1.at.1 (by have := HTM.out; omega) hY2.1.at.2.2.2.2)
      clear hwd hb hY hrow hB hsz hY2
      go_wp2_with fail
      refine pregion_any (fun X => X.cell? ⟨w.heap.size + 1, 0, none⟩ = some (.slice qv out.length cv)) (by kernel_rfl) ?_
      rw [HWD.out]
      refine wpAnyH_take (i := 0) (v := (.agg #[.slice qv out.length cv])) rfl (by kernel_rfl) (by kernel_rfl) (by kernel_rfl) (fun _ _ _ h => h) (.inl ⟨by kernel_rfl, ?_⟩) xH ?_
      · rintro w h1; go_simp <;> omega
      refine plist #[true, false, false, false, false, false] (by kernel_rfl) ?_
      refine wpAnyH_take (i := 1) (v := (.slice q0 0 c0)) rfl (by kernel_rfl) (by kernel_rfl) (by kernel_rfl) (fun _ _ _ h => h) (.inl ⟨by kernel_rfl, ?_⟩) xH ?_
      · rintro w h1; go_simp <;> omega
      refine plist #[true, true, false, false, false, false] (by kernel_rfl) ?_
      have con := HCL.out
      refine pone 2 (by kernel_rfl) rfl fun K hK => ?_
      go_simp
      refine con.mono ?_
      rintro e w3 ⟨p, rfl, hp, hb⟩
      have B3 := Bd.trans (hb.mono Bd.size)
      replace e0 := (Keep.of_below hb).boxed e0 e0.lt
      replace e1 := (Keep.of_below hb).boxed e1 e1.lt
      replace HH := HH.below hb
      replace hp := row_base hp hszd
      obtain ⟨qp, cp, rfl, _⟩ := row_open hp
      have xH3 := e1.cell
      clear con hb Bd HCL
      refine hK _ _ xH3 ?_
      clear hK K
      have c0' := e0.cell
      have z0' := e0.frozen
      have eR := e0.set (.slice qv out.length cv)
      have hBR := B3.setCell (p := ⟨w.heap.size, 0, none⟩) (Nat.le_refl _) (.slice qv out.length cv)
      have HH2 := HH.keep ((Keep.setCell (S := fun b => w.heap.size + 2 ≤ b) w3 ⟨w.heap.size, 0, none⟩ (.slice qv out.length cv) (by simp)))
      have HB2 := (row_bya (z := (qp, 0, cp)) (by rw [HTQ.out]; exact hp)).keep ((Keep.setCell (S := fun b => w.heap.size + 2 ≤ b) w3 ⟨w.heap.size, 0, none⟩ (.slice qv out.length cv) (by simp)))
      have xH4 := ((Keep.setCell (S := fun b => b = w.heap.size + 1) w3 ⟨w.heap.size, 0, none⟩ (.slice qv out.length cv) (by simp)).boxed e1 rfl).cell
      clear hp HH e1
      refine plist #[true, true, true, false, false, false] (by kernel_rfl) ?_
      refine pone 3 (by kernel_rfl) rfl fun K hK => ?_
      go_simp
      refine hK _ _ xH4 ?_
      clear hK K
      refine plist #[true, true, true, true, false, false] (by kernel_rfl) ?_
      refine pone 4 (by kernel_rfl) rfl fun K hK => ?_
      go_simp
      refine hK _ _ xH4 ?_
      clear hK K
      refine plist #[true, true, true, true, true, false] (by kernel_rfl) ?_
      refine pone 5 (by kernel_rfl) rfl fun K hK => ?_
      go_simp
      refine hK _ _ xH4 ?_
      clear hK K
      refine pdone (by kernel_rfl) ?_ _
      go_wp2
      refine bodyPost_ret (ret_hdr3 rfl _ _ w.heap.size _ rfl eR) rfl ?_
      rw [HR.out]
      exact ⟨qv, out.length, cv, qp, 0, cp, rfl, HH2.mono (by omega), HB2.mono (by omega), hBR⟩
    · have d0 : decide (0 < n0) = true := by simp; omega
      have HTL := Lib.hid (show tl.length = n0 from hY.1.at.1)
      have ht' : tl ≠ [] := fun e => by have := HTL.out; rw [e] at this; exact ht this.symm
      have con := nextLine_any q0 n0 c0 tl w.heap.size wr (HGU.out.on hB) hY hB.size hn0
      have HST := Lib.hid (HP.out.trans (HG.out.trans (step_line out tl ht')))
      have HLN := Lib.hid (show (restL tl).length < n0 by rw [← HTL.out]; exact rest_len tl ht')
      have HLL := Lib.hid (show (lineL tl).length ≤ n0 by rw [← HTL.out]; exact line_len tl)
      generalize lineL tl = L at *
      generalize restL tl = T at *
      have HTN := Lib.hid hn0
      clear ht ht' HG hY HTL
      go_wp2_with fail
      refine con.mono ?_
      rintro e w2 ⟨⟨qa, na, ca⟩, ⟨qb, nb, cb⟩, rfl, hz1, hz2, hb⟩
      have HLA := Lib.hid (show L.length = na from hz1.1.at.1)
      have HTB := Lib.hid (show T.length = nb from hz2.1.at.1)
      simp only [vC]
      have B2 := hB.trans (hb.mono hB.size)
      have hsz2 := Nat.le_trans hsz hb.size
      replace e0 := (Keep.of_below hb).boxed e0 e0.lt
      replace e1 := (Keep.of_below hb).boxed e1 e1.lt
      replace hrow := (Keep.of_below hb).row hrow (fun b h => (hrow.lt b h).2)
      clear con hb d0 hB hsz
      by_cases hLn : na = 0
      · subst hLn
        have hLe : L = [] := List.eq_nil_of_length_eq_zero HLA.out
        have HR := Lib.hid (show R = .inr (out, T) by rw [HST.out, if_pos hLe])
        have hY := hz2
        have hB := B2
        have hsz := hsz2
        clear hLe HST hz1 hz2 B2 hsz2 HP
        have HTM := Lib.hid (show nb ≤ 1048576 by have := HLN.out; have := HTN.out; have := HTB.out; omega)
        have HTQ := HTB
        obtain ⟨qv, cv, rfl, HH, _⟩ := hdr_open hrow rfl
        obtain ⟨wd, hwd⟩ : ∃ Z, w2.drew = Z := ⟨_, rfl⟩
        have hb : Below w2.heap.size w2 wd := hwd ▸ ⟨rfl, rfl, rfl, Nat.le_refl _, fun _ _ => rfl⟩
        have Bd := hB.trans (hb.mono hB.size)
        replace e0 := (Keep.of_below hb).boxed e0 e0.lt
        replace e1 := (Keep.of_below hb).boxed e1 e1.lt
        replace HH := HH.below hb
        have hY2 := hY.below (hb.mono hB.size)
        have xH := e1.cell
        have HWD := Lib.hid hwd
        have hszd := Nat.le_trans hsz hb.size
        have HCL := Lib.hid (Clone_any qb nb cb T wd hY2.1.at.1 (by have := HTM.out; omega) hY2.1.at.2.2.2.2)
        clear hwd hb hY hrow hB hsz hY2
        go_wp2_with fail
        refine pregion_any (fun X => X.cell? ⟨w.heap.size + 1, 0, none⟩ = some (.slice qv out.length cv)) (by kernel_rfl) ?_
        rw [HWD.out]
        refine wpAnyH_take (i := 0) (v := (.agg #[.slice qv out.length cv])) rfl (by kernel_rfl) (by kernel_rfl) (by kernel_rfl) (fun _ _ _ h => h) (.inl ⟨by kernel_rfl, ?_⟩) xH ?_
        · rintro w h1; go_simp <;> omega
        refine plist #[true, false, false, false, false, false] (by kernel_rfl) ?_
        refine wpAnyH_take (i := 1) (v := (.slice qb nb cb)) rfl (by kernel_rfl) (by kernel_rfl) (by kernel_rfl) (fun _ _ _ h => h) (.inl ⟨by kernel_rfl, ?_⟩) xH ?_
        · rintro w h1; go_simp <;> omega
        refine plist #[true, true, false, false, false, false] (by kernel_rfl) ?_
        have con := HCL.out
        refine pone 2 (by kernel_rfl) rfl fun K hK => ?_
        go_simp
        refine con.mono ?_
        rintro e w3 ⟨p, rfl, hp, hb⟩
        have B3 := Bd.trans (hb.mono Bd.size)
        replace e0 := (Keep.of_below hb).boxed e0 e0.lt
        replace e1 := (Keep.of_below hb).boxed e1 e1.lt
        replace HH := HH.below hb
        replace hp := row_base hp hszd
        obtain ⟨qp, cp, rfl, _⟩ := row_open hp
        have xH3 := e1.cell
        clear con hb Bd HCL
        refine hK _ _ xH3 ?_
        clear hK K
        have c0' := e0.cell
        have z0' := e0.frozen
        have eR := e0.set (.slice qv out.length cv)
        have hBR := B3.setCell (p := ⟨w.heap.size, 0, none⟩) (Nat.le_refl _) (.slice qv out.length cv)
        have HH2 := HH.keep ((Keep.setCell (S := fun b => w.heap.size + 2 ≤ b) w3 ⟨w.heap.size, 0, none⟩ (.slice qv out.length cv) (by simp)))
        have HB2 := (row_bya (z := (qp, nb, cp)) (by rw [HTQ.out]; exact hp)).keep ((Keep.setCell (S := fun b => w.heap.size + 2 ≤ b) w3 ⟨w.heap.size, 0, none⟩ (.slice qv out.length cv) (by simp)))
        have xH4 := ((Keep.setCell (S := fun b => b = w.heap.size + 1) w3 ⟨w.heap.size, 0, none⟩ (.slice qv out.length cv) (by simp)).boxed e1 rfl).cell
        clear hp HH e1
        refine plist #[true, true, true, false, false, false] (by kernel_rfl) ?_
        refine pone 3 (by kernel_rfl) rfl fun K hK => ?_
        go_simp
        refine hK _ _ xH4 ?_
        clear hK K
        refine plist #[true, true, true, true, false, false] (by kernel_rfl) ?_
        refine pone 4 (by kernel_rfl) rfl fun K hK => ?_
        go_simp
        refine hK _ _ xH4 ?_
        clear hK K
        refine plist #[true, true, true, true, true, false] (by kernel_rfl) ?_
        refine pone 5 (by kernel_rfl) rfl fun K hK => ?_
        go_simp
        refine hK _ _ xH4 ?_
        clear hK K
        refine pdone (by kernel_rfl) ?_ _
        go_wp2
        refine bodyPost_ret (ret_hdr3 rfl _ _ w.heap.size _ rfl eR) rfl ?_
        rw [HR.out]
        exact ⟨qv, out.length, cv, qp, nb, cp, rfl, HH2.mono (by omega), HB2.mono (by omega), hBR⟩
      · have dL : ((na : Int) == 0) = false := by simp; omega
        have hLe : L ≠ [] := fun e => by have := HLA.out; rw [e] at this; exact hLn this.symm
        have con := fieldOf_any qa na ca L w2 hz1.1 (by have := HLL.out; have := HLA.out; have := HTN.out; omega)
        have HFL := Lib.hid (fieldO_len L)
        have HS2 := Lib.hid (show R = if wrongF (fieldO L) out.length = 0 then goH T.length (out ++ [fieldO L]) T else .inl (wrongF (fieldO L) out.length) by rw [HST.out, if_neg hLe])
        obtain ⟨⟨x, y⟩, hF⟩ : ∃ f, fieldO L = f := ⟨_, rfl⟩
        rw [hF] at con HFL HS2
        simp only at con
        clear hLe hLn HST hz1 hF
        go_wp2_with fail
        refine con.mono ?_
        rintro e w4 ⟨⟨qx, nx, cx⟩, ⟨qy, ny, cy⟩, rfl, hx, hy, hb⟩
        have HXL := Lib.hid (show x.length = nx from hx.1.at.1)
        have HYL := Lib.hid (show y.length = ny from hy.1.at.1)
        simp only [vC]
        have B4 := B2.trans (hb.mono B2.size)
        have hsz4 := Nat.le_trans hsz2 hb.size
        have HOW := Lib.hid (show ∀ b, v.ownBlock = some b → w.heap.size + 2 ≤ b ∧ b < w2.heap.size from fun b h => hrow.lt b h)
        replace e0 := (Keep.of_below hb).boxed e0 e0.lt
        replace e1 := (Keep.of_below hb).boxed e1 e1.lt
        replace hrow := (Keep.of_below hb).row hrow (fun b h => (hrow.lt b h).2)
        replace hz2 := hz2.below (hb.mono B2.size)
        have con := add_any (w.heap.size + 1) (w.heap.size + 2) v out qx nx cx x qy ny cy y w4 (HGU.out.on B4) e1 hrow (by omega) hsz4 hx.1 hy.1 (by have h : x.length ≤ L.length := HFL.out.1; have := HXL.out; have := HLL.out; have := HTN.out; omega) (by have h : y.length ≤ L.length := HFL.out.2; have := HYL.out; have := HLL.out; have := HTN.out; omega) hzs
          (fun a ha h0 => ⟨by have := hx.2 a ha h0; omega, fun ho => by have := hx.2 a ha h0; have := (HOW.out _ ho).2; omega⟩)
          (fun a ha h0 => ⟨by have := hy.2 a ha h0; omega, fun ho => by have := hy.2 a ha h0; have := (HOW.out _ ho).2; omega⟩)
        clear hb dL B2 hsz2 hx hy e1 hrow
        go_wp2_with fail
        refine con.mono ?_
        rintro e w5 ⟨v5, rfl, e1, hrow, hb, hK⟩
        have B5 := B4.trans (hb.mono (Nat.le_succ _))
        have hsz5 := Nat.le_trans hsz4 hb.size
        replace e0 := hK.boxed e0 ⟨by omega, fun ho => by have := (HOW.out _ ho).1; omega⟩
        replace hz2 := hz2.below (hb.mono (Nat.le_succ _))
        clear con hb hK B4 hsz4 HOW
        obtain ⟨en, hen⟩ : ∃ e, wrongF (x, y) out.length = e := ⟨_, rfl⟩
        have HWF := Lib.hid hen
        rw [hen] at HS2 ⊢
        by_cases hz : en = 0
        · subst hz
          have hadd : addL out (x, y) = out ++ [(x, y)] := by unfold addL; rw [if_pos hen]
          rw [hadd] at hrow
          rw [if_pos rfl] at HS2
          have hlt64 := (wrong_field _ _ HWF.out).2
          have HGF := Lib.hid (show goH l.length [] l = goH T.length (out ++ [(x, y)]) T by rw [← HP.out]; exact HS2.out)
          have hTl : nb ≤ 1048576 := by have := HLN.out; have := HTN.out; have := HTB.out; omega
          clear hen hadd
          go_wp2
          go_roundw
          case rel => exact ⟨qb, nb, cb, T, out ++ [(x, y)], _, rfl, hz2, hTl, HGF, e0, e1, hrow, by simp; omega, B5, hsz5⟩
          case measure => have := HLN.out; have := HTB.out; simp [sliceNH]; omega
        · have d2 : (en != 0) = true := by simpa using hz
          have HR := Lib.hid (show R = .inl en by rw [HS2.out, if_neg hz])
          clear HS2 hz hen hrow hz2
          have z0' := e0.frozen
          have c0' := e0.cell
          have eR := e0.set (.slice none 0 0)
          have hBR := B5.setCell (p := ⟨w.heap.size, 0, none⟩) (Nat.le_refl _) (.slice none 0 0)
          clear e0 e1
          go_wp2
          refine bodyPost_ret (ret_hdr3 rfl _ _ w.heap.size _ rfl eR) rfl ?_
          rw [HR.out]
          exact ⟨none, 0, 0, none, 0, 0, rfl, HdrIn.nil _ _, ByA.nil _ _, hBR⟩
end Go.Proofs.YtfgjcdjhaihgaaaDoor.Hdr

namespace Go.Proofs.YtfgjcdjhaihgaaaDoor.Hdr
open Go.RowKit Go.Shelf Url
attribute [local go_sem] Oper.semAt_some
set_option linter.unusedVariables false

theorem ofE_consO (n : Nat) (g : Fld) (r : List Fld) : ofE n (g :: r) = if wrongF g n = 0 then ofE (n + 1) r else wrongF g n := rfl
theorem ofE_at : ∀ (pre : List Fld) (n : Nat) (f : Fld) (r : List Fld), ofE n pre = 0 → wrongF f (n + pre.length) ≠ 0 → ofE n (pre ++ f :: r) = wrongF f (n + pre.length)
  | [], n, f, r, _, h => by
    show (if wrongF f n = 0 then ofE (n + 1) r else wrongF f n) = wrongF f (n + 0)
    exact if_neg h
  | g :: pre, n, f, r, h0, h => by
    rw [ofE_consO] at h0
    by_cases hg : wrongF g n = 0
    · rw [if_pos hg] at h0
      rw [List.cons_append, ofE_consO, if_pos hg, ofE_at pre (n + 1) f r h0 (by rw [List.length_cons] at h; rw [show n + 1 + pre.length = n + (pre.length + 1) by omega]; exact h), List.length_cons, show n + 1 + pre.length = n + (pre.length + 1) by omega]
    · rw [if_neg hg] at h0; exact absurd h0 hg
theorem ofE_snocO : ∀ (l : List Fld) (n : Nat) (f : Fld), ofE n (l ++ [f]) = if ofE n l = 0 then wrongF f (n + l.length) else ofE n l
  | [], n, f => by
    show (if wrongF f n = 0 then ofE (n + 1) [] else wrongF f n) = if (0 : Int) = 0 then wrongF f (n + 0) else 0
    rw [if_pos rfl]
    by_cases h : wrongF f n = 0
    · rw [if_pos h]; exact h.symm
    · rw [if_neg h]; rfl
  | g :: r, n, f => by
    by_cases h : wrongF g n = 0
    · have e1 : ofE n (g :: r) = ofE (n + 1) r := by rw [ofE_consO, if_pos h]
      have e2 : ofE n (g :: r ++ [f]) = ofE (n + 1) (r ++ [f]) := by rw [List.cons_append, ofE_consO, if_pos h]
      rw [e1, e2, ofE_snocO r (n + 1) f, List.length_cons, show n + 1 + r.length = n + (r.length + 1) by omega]
    · have e1 : ofE n (g :: r) = wrongF g n := by rw [ofE_consO, if_neg h]
      have e2 : ofE n (g :: r ++ [f]) = wrongF g n := by rw [List.cons_append, ofE_consO, if_neg h]
      rw [e1, e2, if_neg h]
theorem ret_hdr2 {fn : Func} {p u : Tmp} (h : fn.results = #[.cell p 26, .tmp u]) (tmps : Array Value) (w : World) (B : Nat) (v : Value) (hp : tmps.getD p undef = .pointer (some ⟨B, 0, none⟩)) (hU : Boxed w B 26 v) :
    (results fn tmps).run Tryd.prog w = .ok (.tuple #[.agg #[v], tmps.getD u undef]) w := by
  rw [results_cell_tmp h, hp]
  simp [asAddr, Result.andThen, run_loadVar_row w B 26 _ #[v] (0, 0) _ hU Tryd.underlying26 rfl (by kernel_rfl)]

set_option maxRecDepth 100000 in
set_option maxHeartbeats 16000000 in
theorem Of_any (q : Option Addr) (n c : Nat) (zs0 : List FZ) (w : World) (hG : Ug w) (h : FlsIn 0 w q n zs0) (hn : n ≤ 1000) (hs : ∀ z ∈ zs0, z.2.1.length ≤ 1000 ∧ z.2.2.length ≤ 1000) :
    Calls Tryd.prog 22 #[.slice q n c] w (OfOut (zs0.map Prod.snd) w) := by
  obtain ⟨W0, hW0⟩ : ∃ W, (w.alloc (.cells #[.slice none 0 0] 26)).alloc (.cells #[.slice none 0 0] 26) = W := ⟨_, rfl⟩
  have A0 : Below w.heap.size w W0 := hW0 ▸ ((Below.refl _ w).alloc (Nat.le_refl _) _).alloc (by simp) _
  have b0 : Boxed W0 w.heap.size 26 (.slice none 0 0) := hW0 ▸ (Boxed.new w _ _).alloc _
  have b1 : Boxed W0 (w.heap.size + 1) 26 (.slice none 0 0) := by
    have := Boxed.new (w.alloc (.cells #[.slice none 0 0] 26)) 26 (.slice none 0 0)
    rw [World.size_alloc] at this
    exact hW0 ▸ this
  have hs0 : w.heap.size + 2 ≤ W0.heap.size := by rw [← hW0]; simp
  have HZ0 := Lib.hid h
  have HZL := Lib.hid h.1
  have HSM := Lib.hid hs
  have HW0 := Lib.hid hW0
  have HGU := Lib.hid hG
  obtain ⟨l0, hl0⟩ : ∃ l, zs0.map Prod.snd = l := ⟨_, rfl⟩
  have HL0 := Lib.hid hl0
  have HLL := Lib.hid (show l0.length = n by rw [← hl0, List.length_map]; exact h.1)
  rw [hl0]
  clear hW0 h hs hG hl0
  go_enter Tryd.func22, Tryd.ntmps22
  go_wp2
  rw [HW0.out]
  go_loopw [10] (fun i wr => ∃ (k : Nat) (out : List Fld) (v : Value), k ≤ n ∧ i = .int .i64 k ∧ Hid (out = l0.take k) ∧ Hid (out.length = k) ∧ Hid (ofE 0 out = 0) ∧ Boxed wr w.heap.size 26 (.slice none 0 0) ∧ Boxed wr (w.heap.size + 1) 26 v ∧
    wr.ownsRow (w.heap.size + 2) 73 2 v out.length (fdV out) ∧ out.length ≤ 64 ∧ Below w.heap.size w wr ∧ w.heap.size + 2 ≤ wr.heap.size) (fun i _ => n - (intOf i).toNat)
  case atStart => exact ⟨0, [], _, Nat.zero_le _, rfl, Lib.hid rfl, Lib.hid rfl, Lib.hid rfl, b0, b1, World.ownsRow_nil _ _ _ _, by simp, A0, hs0⟩
  case round =>
    obtain ⟨k, out, v, hk, rfl, HM, HK, HE, e0, e1, hrow, h64, hB, hsz⟩ := hrel
    clear b0 b1 hs0 A0 HW0
    by_cases hlt : k < n
    · obtain ⟨⟨⟨⟨q1, n1, c1⟩, ⟨q2, n2, c2⟩⟩, ⟨x, y⟩⟩, hz⟩ : ∃ z, zs0[k]? = some z := ⟨_, List.getElem?_eq_getElem (by have := HZL.out; omega)⟩
      have hZ := HZ0.out.below hB
      obtain ⟨g, o, rfl, _, hg, hc⟩ := hZ.2.1 (by omega)
      obtain ⟨k1, k2⟩ := hc k _ hz
      have hzm := List.mem_of_getElem? hz
      obtain ⟨hx0, hy0⟩ := HZ0.out.2.2 _ hzm
      obtain ⟨sx, sy⟩ := HSM.out _ hzm
      simp only [vC] at k1 k2 hx0 hy0 sx sy
      have ux := byU_of hx0.1
      have uy := byU_of hy0.1
      have hx1 : x.length = n1 := hx0.1.at.1
      have hy1 : y.length = n2 := hy0.1.at.1
      have hlk : l0[k]? = some (x, y) := by rw [← HL0.out, List.getElem?_map, hz]; rfl
      have HTK := Lib.hid (take_snocF l0 k (x, y) hlk)
      have HALL := Lib.hid (show l0 = out ++ (x, y) :: l0.drop (k + 1) by
        obtain ⟨z', hz', hd⟩ := drop_getElemT l0 k (by have := HLL.out; omega)
        rw [hlk] at hz'; cases hz'
        conv => lhs; rw [← List.take_append_drop k l0, hd]
        rw [HM.out])
      have hbf : Below wr.heap.size wr (wr.alloc (.cells #[.slice q1 n1 c1, .slice q2 n2 c2] 54)) := (Below.refl _ wr).alloc (Nat.le_refl _) _
      have B1 := hB.trans (hbf.mono hB.size)
      have f0 : FB2 wr.heap.size #[.slice q1 n1 c1, .slice q2 n2 c2] (wr.alloc (.cells #[.slice q1 n1 c1, .slice q2 n2 c2] 54)) := FB2.new wr _
      have HOW := Lib.hid (show ∀ b, v.ownBlock = some b → w.heap.size + 2 ≤ b ∧ b < wr.heap.size from fun b h => hrow.lt b h)
      have con := add_any (w.heap.size + 1) (w.heap.size + 2) v out q1 n1 c1 x q2 n2 c2 y _ (HGU.out.on B1) ((Keep.of_below hbf).boxed e1 e1.lt) ((Keep.of_below hbf).row hrow (fun b h => (hrow.lt b h).2)) (by omega) (Nat.le_trans hsz hbf.size) (ux.below B1).1 (uy.below B1).1 (by omega) (by omega) h64
        (fun a ha h0 => ⟨by have := ux.2 a ha h0; omega, fun ho => by have := ux.2 a ha h0; have := (HOW.out _ ho).1; omega⟩)
        (fun a ha h0 => ⟨by have := uy.2 a ha h0; omega, fun ho => by have := uy.2 a ha h0; have := (HOW.out _ ho).1; omega⟩)
      have x0 := f0.cell 0 _ rfl
      have x1 := f0.cell 1 _ rfl
      have HBW := Lib.hid (show Below w.heap.size w wr from hB)
      replace e0 := (Keep.of_below hbf).boxed e0 e0.lt
      have hsz1 := Nat.le_trans hsz hbf.size
      clear hZ hc hz hzm hx0 hy0 sx sy ux uy hx1 hy1 hlk hbf f0 e1 hrow hB hsz
      go_wp2_with fail
      refine con.mono ?_
      rintro e w5 ⟨v5, rfl, e1, hrow, hb, hK⟩
      have B5 := B1.trans (hb.mono (Nat.le_succ _))
      have hsz5 := Nat.le_trans hsz1 hb.size
      replace e0 := hK.boxed e0 ⟨by omega, fun ho => by have := (HOW.out _ ho).1; omega⟩
      clear con hb hK B1 hsz1 HOW x0 x1 k1 k2
      obtain ⟨en, hen⟩ : ∃ e, wrongF (x, y) out.length = e := ⟨_, rfl⟩
      have HWF := Lib.hid hen
      rw [hen]
      by_cases h0 : en = 0
      · subst h0
        have hadd : addL out (x, y) = out ++ [(x, y)] := by unfold addL; rw [if_pos hen]
        rw [hadd] at hrow
        have hlt64 := (wrong_field _ _ HWF.out).2
        have HMF := Lib.hid (show out ++ [(x, y)] = l0.take (k + 1) by rw [HTK.out, HM.out])
        have HKF := Lib.hid (show (out ++ [(x, y)]).length = k + 1 by rw [List.length_append, HK.out]; rfl)
        have HEF := Lib.hid (show ofE 0 (out ++ [(x, y)]) = 0 by
          rw [ofE_snocO, if_pos HE.out, Nat.zero_add]; exact HWF.out)
        clear hen hadd
        go_wp2
        go_roundw
        case rel => exact ⟨k + 1, out ++ [(x, y)], _, by omega, by go_num, HMF, HKF, HEF, e0, e1, hrow, by simp; omega, B5, hsz5⟩
        case measure => simp [intOf]; omega
      · have d2 : (en != 0) = true := by simpa using h0
        have HR := Lib.hid (show ofE 0 l0 = en by
          rw [HALL.out, ofE_at _ 0 _ _ HE.out (by rw [Nat.zero_add, HWF.out]; exact h0), Nat.zero_add, HWF.out])
        have z0' := e0.frozen
        have c0' := e0.cell
        have eR := e0.set (.slice none 0 0)
        have hBR := B5.setCell (p := ⟨w.heap.size, 0, none⟩) (Nat.le_refl _) (.slice none 0 0)
        have H0 := Lib.hid h0
        clear hrow e0 e1 h0 hen
        go_wp2
        refine bodyPost_ret (ret_hdr2 rfl _ _ w.heap.size _ rfl eR) rfl ?_
        refine ⟨none, 0, 0, by rw [HR.out]; rfl, ?_, hBR⟩
        rw [if_neg (by rw [HR.out]; exact H0.out)]
        exact HdrIn.nil _ _
    · obtain rfl : k = n := by omega
      have hall : l0.take k = l0 := List.take_of_length_le (by have := HLL.out; omega)
      have HM2 := Lib.hid (show out = l0 by rw [HM.out, hall])
      have HR := Lib.hid (show ofE 0 l0 = 0 by rw [← HM2.out]; exact HE.out)
      obtain ⟨qv, cv, rfl, HH, _⟩ := hdr_open hrow rfl
      have c0' := e0.cell
      have c1' := e1.cell
      have z0' := e0.frozen
      have eR := e0.set (.slice qv out.length cv)
      have hBR := hB.setCell (p := ⟨w.heap.size, 0, none⟩) (Nat.le_refl _) (.slice qv out.length cv)
      have HH2 := HH.keep ((Keep.setCell (S := fun b => w.heap.size + 2 ≤ b) wr ⟨w.heap.size, 0, none⟩ (.slice qv out.length cv) (by simp)))
      clear hrow e0 e1 hall
      go_wp2
      refine bodyPost_ret (ret_hdr2 rfl _ _ w.heap.size _ rfl eR) rfl ?_
      refine ⟨qv, out.length, cv, by rw [HR.out]; rfl, ?_, hBR⟩
      rw [if_pos HR.out, ← HM2.out]
      exact HH2.mono (by omega)
end Go.Proofs.YtfgjcdjhaihgaaaDoor.Hdr

namespace Go.Proofs.YtfgjcdjhaihgaaaDoor.Hdr
open Go.RowKit Go.Shelf Url
attribute [local go_sem] Oper.semAt_some
set_option linter.unusedVariables false

def liveT : List UInt8 := [65, 58, 32, 98, 13, 10, 13, 10, 120]
theorem live_parse : parseH liveT = .inr ([([65], [98])], [120]) := by decide +kernel
theorem live_values : valuesL [([65], [98])] [97] = [[98]] := by decide +kernel
theorem strs_eq (l m : List UInt8) : ((⟨l.toArray⟩ : ByteArray).toList == (⟨m.toArray⟩ : ByteArray).toList) = decide (l = m) := by
  rw [Lib.toList_data, Lib.toList_data, Bool.eq_iff_iff, beq_iff_eq, decide_eq_true_iff]

theorem parsed_out {r : Sum Int (List Fld × List UInt8)} {w : World} {e : Ending} {w' : World} (h : ParsedOut r w e w') :
    ∃ q c, e = .returned (.tuple #[.slice q (pH r).length c, .string ⟨(pB r).toArray⟩, .int .i64 (pE r)]) ∧ FdIn w' q (pH r).length (pH r) ∧ (∀ a, q = some a → w.heap.size ≤ a.block) ∧ Below w.heap.size w w' := by
  cases r with
  | inl n =>
    obtain ⟨v, rfl, h1, h2⟩ := h
    obtain ⟨q, c, rfl, _, h3⟩ := fld_open h1
    refine ⟨q, c, rfl, h3, fun a ha => ?_, h2⟩
    subst ha
    rcases h1.2 with ⟨hv, _⟩ | ⟨g, cap, cur, hv, hb, _⟩
    · cases hv
    · cases hv; exact hb
  | inr x =>
    obtain ⟨v, rfl, h1, h2⟩ := h
    obtain ⟨q, c, rfl, _, h3⟩ := fld_open h1
    refine ⟨q, c, rfl, h3, fun a ha => ?_, h2⟩
    subst ha
    rcases h1.2 with ⟨hv, _⟩ | ⟨g, cap, cur, hv, hb, _⟩
    · cases hv
    · cases hv; exact hb
theorem FdIn.keepB {B : Nat} {w w' : World} {q : Option Addr} {n : Nat} {m : List Fld} (h : FdIn w q n m) (hq : ∀ a, q = some a → B ≤ a.block) (hk : Keep (fun b => B ≤ b) w w') : FdIn w' q n m := by
  refine ⟨h.1, fun h0 => ?_⟩
  obtain ⟨g, rfl, hg, hc⟩ := h.2 h0
  have hb := hk.block g hg (hq _ rfl)
  have hcell : ∀ j, w'.cell? ⟨g, j, none⟩ = w.cell? ⟨g, j, none⟩ := fun j => by simp only [World.cell?, hb]
  exact ⟨g, rfl, Nat.lt_of_lt_of_le hg hk.size, fun i x hx => by rw [hcell, hcell]; exact hc i x hx⟩
/-- The cells of a row of bytes of one's own. -/
def RowAt (q : Option Addr) (n : Nat) (w : World) : Prop := ∀ j, j < n → ∃ b y, q = some ⟨b, 0, none⟩ ∧ w.cell? ⟨b, j, none⟩ = some (.int .u8 y) ∧ w.frozen? ⟨b, j, none⟩ = false
theorem row_at {w : World} {base : Nat} {q : Option Addr} {n c : Nat} {l : List UInt8} (h : w.ownsRow base 5 1 (.slice q n c) n (byV l)) : RowAt q n w := fun j hj => by
  have hl : l.length = n := by have := h.1; simpa [byV, Lib.numsL] using this
  rcases h.2 with ⟨_, h2⟩ | ⟨g, cap, cur, h1, _⟩
  · omega
  · cases h1
    have hj' : j < (Lib.numsL l).length := by rw [Lib.numsL_length]; omega
    refine ⟨g, (Lib.numsL l)[j], rfl, (h.cellAt j (by omega)).trans ?_, h.frozenAt j⟩
    simp only [byV, List.getElem?_map, List.getElem?_eq_getElem hj', Option.map_some]
theorem RowAt.keep {q : Option Addr} {n : Nat} {w w' : World} {S : Nat → Prop} (h : RowAt q n w) (hk : Keep S w w') (hS : ∀ a, q = some a → S a.block) : RowAt q n w' := fun j hj => by
  obtain ⟨b, y, rfl, h1, h2⟩ := h j hj
  have hb := hk.block b (World.block_lt_of_cell? w _ h1) (hS _ rfl)
  exact ⟨b, y, rfl, (World.cell?_of_block hb).trans h1, (World.frozen?_of_block hb).trans h2⟩
theorem RowAt.set {q : Option Addr} {n k : Nat} {b : Nat} {v : Int} {w : World} (h : RowAt q n w) (hq : q = some ⟨b, 0, none⟩) : RowAt q n (w.setCell ⟨b, k, none⟩ (.int .u8 v)) := fun j hj => by
  obtain ⟨b', y, hb, h1, h2⟩ := h j hj
  rw [hq] at hb
  cases hb
  by_cases hjk : j = k
  · subst hjk
    exact ⟨b, _, hq, World.cell?_setCell_same' _ _ _ (by rw [h1]; rfl), (World.frozen?_setCell _ _ _ _).trans h2⟩
  · exact ⟨b, y, hq, (World.cell?_setCell_other _ _ _ _ (by intro h; cases h; exact hjk rfl)).trans h1, (World.frozen?_setCell _ _ _ _).trans h2⟩
theorem parse_bounds (t : List UInt8) : (∀ f ∈ pH (parseH t), Small t.length f) ∧ (pH (parseH t)).length ≤ 64 ∧ (pB (parseH t)).length ≤ t.length := by
  cases e : parseH t with
  | inl n =>
    exact ⟨fun f (hf : f ∈ ([] : List Fld)) => (by cases hf), Nat.zero_le _, Nat.zero_le _⟩
  | inr x => exact parse_small t x.1 x.2 e

set_option maxRecDepth 100000 in
set_option maxHeartbeats 4000000 in
theorem lives_any (w : World) (hG : Ug w) : Calls Tryd.prog 7 #[] w fun e w' => e = .returned (.bool true) ∧ Below w.heap.size w w' := by
  have hby : By (w.alloc (.cells #[.int .u8 65, .int .u8 58, .int .u8 32, .int .u8 98, .int .u8 13, .int .u8 10, .int .u8 13, .int .u8 10, .int .u8 120] 5 (9, 10))) (.slice (some ⟨w.heap.size, 0, none⟩) 9 9) liveT := by_lit w _ liveT (9, 10) 9 rfl rfl (by decide)
  have kc := fun (w : World) (C : Array Value) (n c : Nat) => Lib.run_convert_bytes_const (P := Tryd.prog) w 22 5 C n c Tryd.underlying22 Tryd.underlying5
  have hb0 := (Below.refl _ w).alloc (Nat.le_refl _) (.cells #[.int .u8 65, .int .u8 58, .int .u8 32, .int .u8 98, .int .u8 13, .int .u8 10, .int .u8 13, .int .u8 10, .int .u8 120] 5 (9, 10))
  have con := Parse_any _ _ _ liveT _ (hG.on hb0) hby (by omega)
  rw [live_parse] at con
  clear hby hG
  go_enter Tryd.func7, Tryd.ntmps7
  go_wp2_with fail
  refine con.mono ?_
  rintro e w2 ⟨q, n, c, q2, n2, c2, rfl, hH, hB2, hb⟩
  simp only [pE, pH, pB] at hH hB2 ⊢
  have B2 := hb0.trans (hb.mono (by simp))
  obtain ⟨b1, hb1⟩ : ∃ b, w2.heap.size = b := ⟨_, rfl⟩
  obtain ⟨W3, hW3⟩ : ∃ Z, w2.alloc (.cells #[.slice q n c] 26) = Z := ⟨_, rfl⟩
  have H3 := HX.new hH
  rw [hW3, hb1] at H3
  have hb3 : Below w2.heap.size w2 W3 := hW3 ▸ (Below.refl _ w2).alloc (Nat.le_refl _) _
  have B3 := B2.trans (hb3.mono B2.size)
  have Y3 := hB2.1.on hb3
  have con2 := Get_any _ q n c [([65], [98])] [97] W3 H3.2 (by have := H3.2.len; simp at this; omega) (by simp) (by simp)
  rw [live_values] at con2
  have HW3 := Lib.hid hW3
  have HB1 := Lib.hid hb1
  have x0 := H3.c0
  clear con hb0 hb hb1 hW3 hH hB2 hb3 B2
  go_wp2_with fail
  rw [HW3.out, HB1.out]
  refine con2.mono ?_
  rintro e w4 ⟨q4, n4, c4, rfl, Y4, hb⟩
  have B4 := B3.trans (hb.mono B3.size)
  have y3 := conv_str (Y3.on hb)
  have y4 := conv_str Y4
  have e1 := strs_eq [98] [98]
  have e2 := strs_eq [120] [120]
  rw [decide_eq_true rfl] at e1 e2
  simp only [List.headD_cons] at y3 y4
  clear con2 hb Y3 Y4 B3 x0 H3 HW3 HB1
  go_wp2
  go_ret
  exact ⟨rfl, B4⟩
end Go.Proofs.YtfgjcdjhaihgaaaDoor.Hdr

namespace Go.Proofs.YtfgjcdjhaihgaaaDoor.Hdr
open Go.RowKit Go.Shelf Url Go.ChangeShapes Go.WideShapes
set_option linter.unusedVariables false

theorem addr_of {w : World} {x : Addr} {v : Value} (h : w.cell? x = some v) : ∃ b o, x = ⟨b, o, none⟩ ∧ b < w.heap.size := by
  obtain ⟨b, o, s⟩ := x
  cases s with
  | none => exact ⟨b, o, rfl, World.block_lt_of_cell? w _ h⟩
  | some s =>
    exfalso
    simp only [World.cell?] at h
    split at h
    · simp at h
    · cases h
theorem row8_by {w : World} {q : Option Addr} {n c : Nat} {zs : List Int} (h : Row8 w q n c zs) : ∃ bs : List UInt8, By w (.slice q n c) bs := by
  rcases h with ⟨rfl, rfl, rfl, rfl⟩ | ⟨x, rfl, h1, h2, h3, _, h4, h5⟩
  · exact ⟨[], by_nil w⟩
  · have hz : ∀ i, i < n → (Lib.numsL (Lib.bytesOf (zs.take n))).getD i 0 = zs.getD i 0 := fun i hi => by
      have hi' : i < zs.length := by omega
      have hw := bounds_u8 (h5 _ (List.getElem_mem hi'))
      have : (Lib.bytesOf (zs.take n)).getD i 0 = UInt8.ofNat (zs[i]).toNat := by
        simp [Lib.bytesOf, List.getD, hi, List.getElem?_eq_getElem hi']
      rw [numsL_getD _ _ (by simp [Lib.bytesOf]; omega), this, List.getD, List.getElem?_eq_getElem hi']
      simp only [Option.getD_some, UInt8.toNat_ofNat']
      omega
    refine ⟨Lib.bytesOf (zs.take n), By.of (by simp [Lib.bytesOf]; omega) h1 h2 (fun h => by cases h) (Lib.BytesIn.of_cells fun i hi => ?_)⟩
    rw [hz i hi]
    exact h4 i (by omega)
theorem list_of {P : Nat → FZ → Prop} : ∀ n : Nat, (∀ i, i < n → ∃ z, P i z) → ∃ zs : List FZ, zs.length = n ∧ ∀ i z, zs[i]? = some z → P i z
  | 0, _ => ⟨[], rfl, fun i z h => by simp at h⟩
  | n + 1, h => by
    obtain ⟨zs, h1, h2⟩ := list_of n (fun i hi => h i (by omega))
    obtain ⟨z, hz⟩ := h n (by omega)
    refine ⟨zs ++ [z], by simp [h1], fun i y hy => ?_⟩
    rcases Nat.lt_or_ge i n with hi | hi
    · rw [List.getElem?_append_left (by omega)] at hy
      exact h2 i y hy
    · rw [List.getElem?_append_right (by omega)] at hy
      have h0 : i - zs.length = 0 := by
        rcases Nat.eq_zero_or_pos (i - zs.length) with h | h
        · exact h
        · rw [List.getElem?_eq_none (by simp; omega)] at hy; cases hy
      rw [h0] at hy
      simp at hy
      subst hy
      rwa [show i = n by omega]
theorem flds_in {w : World} {a : Option Addr} {len cap : Nat} (h : IsFlds w a len cap) : ∃ zs : List FZ, FlsIn 0 w a len zs := by
  rcases h with ⟨rfl, rfl, rfl⟩ | ⟨x, rfl, hl, hm, hc⟩
  · exact ⟨[], FlsIn.nil _ _ _⟩
  · obtain ⟨zs, h1, h2⟩ := list_of (P := fun i z => w.cell? (x.add (i * 2)) = some (vC z.1.1) ∧ w.cell? ((x.add (i * 2)).add 1) = some (vC z.1.2) ∧ FAt 0 w z) len (fun i hi => by
      obtain ⟨q1, n1, c1, z1, q2, n2, c2, z2, hu, hv, r1, r2⟩ := hc i hi
      obtain ⟨b1, y1⟩ := row8_by r1
      obtain ⟨b2, y2⟩ := row8_by r2
      exact ⟨(((q1, n1, c1), (q2, n2, c2)), (b1, b2)), hu, hv, ⟨y1, fun _ _ _ => Nat.zero_le _⟩, ⟨y2, fun _ _ _ => Nat.zero_le _⟩⟩)
    refine ⟨zs, h1, fun h0 => ?_, fun z hz => ?_⟩
    · obtain ⟨z, hz⟩ : ∃ z, zs[0]? = some z := ⟨_, List.getElem?_eq_getElem (by omega)⟩
      obtain ⟨b, o, rfl, hb⟩ := addr_of (x := x) (by have := (h2 0 z hz).1; rwa [show x.add (0 * 2) = x from rfl] at this)
      refine ⟨b, o, rfl, Nat.zero_le _, hb, fun i z hz => ?_⟩
      obtain ⟨g1, g2, _⟩ := h2 i z hz
      rw [add_plain] at g1 g2
      rw [add_plain] at g2
      exact ⟨g1, g2⟩
    · obtain ⟨i, hi⟩ := List.getElem?_of_mem hz
      exact (h2 i z hi).2.2
theorem ofE_cons (n : Nat) (g : Fld) (r : List Fld) : ofE n (g :: r) = if wrongF g n = 0 then ofE (n + 1) r else wrongF g n := rfl
theorem ofE_snoc : ∀ (l : List Fld) (n : Nat) (f : Fld), ofE n (l ++ [f]) = if ofE n l = 0 then wrongF f (n + l.length) else ofE n l
  | [], n, f => by
    show (if wrongF f n = 0 then ofE (n + 1) [] else wrongF f n) = if (0 : Int) = 0 then wrongF f (n + 0) else 0
    rw [if_pos rfl]
    by_cases h : wrongF f n = 0
    · rw [if_pos h]; exact h.symm
    · rw [if_neg h]; rfl
  | g :: r, n, f => by
    by_cases h : wrongF g n = 0
    · have e1 : ofE n (g :: r) = ofE (n + 1) r := by rw [ofE_cons, if_pos h]
      have e2 : ofE n (g :: r ++ [f]) = ofE (n + 1) (r ++ [f]) := by rw [List.cons_append, ofE_cons, if_pos h]
      rw [e1, e2, ofE_snoc r (n + 1) f, List.length_cons, show n + 1 + r.length = n + (r.length + 1) by omega]
    · have e1 : ofE n (g :: r) = wrongF g n := by rw [ofE_cons, if_neg h]
      have e2 : ofE n (g :: r ++ [f]) = wrongF g n := by rw [List.cons_append, ofE_cons, if_neg h]
      rw [e1, e2, if_neg h]
end Go.Proofs.YtfgjcdjhaihgaaaDoor.Hdr

namespace Go.Proofs.YtfgjcdjhaihgaaaDoor.headerBack
open Go.ChangeShapes Go.WideShapes Go.ChangeAt Go.RowKit Go.Lib
set_option linter.unusedVariables false

theorem own : ownKnob Tryd.prog.godebug = none := by kernel_rfl
theorem laidOut : laidOutB Tryd.prog = true := by kernel_rfl
def u8Ren : Go.Shelf.Ren := ⟨fun n => n, fun | 5 => 5 | 119 => 106 | 138 => 108 | 139 => 109 | n => n, fun | 3 => 1 | 4 => 2 | n => n⟩
theorem u8Types : Go.Proofs.U8Types Tryd.prog u8Ren := { t5 := Tryd.underlying5, t119 := Tryd.underlying106, t138 := Tryd.underlying108, t139 := Tryd.underlying109 }
theorem first_is : Rows.laid_unicode_utf8_first = firstData := Go.Pinned.utf8First_eq
theorem accept_is : Rows.laid_unicode_utf8_acceptRanges = acceptData := by kernel_rfl

def IsRow (k : IntKind) (w : World) (a : Option Addr) (len cap : Nat) (zs : List Int) : Prop :=
  (a = none ∧ len = 0 ∧ cap = 0 ∧ zs = []) ∨
  ∃ x, a = some x ∧ len ≤ cap ∧ cap ≤ maxLen ∧ zs.length = cap ∧ (∀ i, i < zs.length → w.cell? (x.add i) = some (.int k (zs.getD i 0))) ∧ ∀ n ∈ zs, (Lit.int k n).wf = true

/-- The law's walk. -/
def Walks : Prop := ∀ (a0 : Option Addr) (len0 cap0 : Nat) (a1 : Option Addr) (len1 cap1 : Nat) (z1 : List Int) (w : World), Hdr.IsFlds w a0 len0 cap0 → IsRow .u8 w a1 len1 cap1 z1 → Hdr.Ug w →
  Calls Tryd.prog 5 #[.slice a0 len0 cap0, .slice a1 len1 cap1] w fun e w' => e = .returned (.bool true) ∧ Below w.heap.size w w'

theorem gl {W : World} (hL : laidMetH Tryd.prog Rows.headerBackRow.laid W) (hsh : W.ShapedOpen Tryd.prog) : Hdr.Ug W := by
  refine ⟨?_, ?_⟩
  · exact cell_of_shapedOpen_int (t := 3) (zero := #[.int .i64 0]) hsh (by decide +kernel) (by kernel_rfl) rfl (by kernel_rfl) (by kernel_rfl) (by kernel_rfl)
  · have hL' : laidMet Tryd.prog Rows.headerBackRow.laid W := by
      rw [MakeChecks.laidMetH_plain _ _ _ (by kernel_rfl)] at hL; exact hL
    exact utf8Tabs_of_readsT u8Types ⟨by kernel_rfl, by kernel_rfl, by kernel_rfl, by kernel_rfl, by kernel_rfl, by kernel_rfl, by kernel_rfl⟩ (first_is ▸ Lib.laidMet.reads hL' (.tail _ (.head _))) (accept_is ▸ Lib.laidMet.reads hL' (.head _))

set_option maxRecDepth 100000 in
/-- What the walk gives, for every argument and every world that holds the listed tables. -/
theorem contract (hw : Walks) (H : Type) (enc : TypeId × Value → H) (W : World) (base : Nat) (args : Array Value) (ds gs : List (DataW H)) (before : List MemPlace)
    (hval0 : ∀ (j : Nat) t v, Tryd.f5.params[j]? = some t → args[j]? = some v → Value.okWide Tryd.prog W .any base t v)
    (hW : DataW.Whole enc Tryd.prog Tryd.f5.params.toList Rows.headerBackSpec.vars false W args.toList ds gs before) (hL : laidMetH Tryd.prog Rows.headerBackRow.laid W) (hsh : W.ShapedOpen Tryd.prog) :
    Calls Tryd.prog 5 args W fun e W' => ∃ v, e = .returned v ∧ Rows.headerBackSpec.post enc Tryd.prog Tryd.f5 false true false false W args v W' := by
  have hval : ∀ (j : Nat) t v, Tryd.f5.params[j]? = some t → args[j]? = some v → Value.okWide Tryd.prog W .any base t v := hval0
  have hW' := hW
  obtain ⟨p, q, hA0, hV, rfl, hfz, hnd⟩ := hW
  have hA : DataW.TrodAll enc Tryd.prog W 0 (fun _ => true) true Tryd.f5.params.toList args.toList ds p := hA0
  rw [Tryd.params5] at hA hval
  obtain ⟨v0, vs0, d0, ds0, p0, q0, hargs, rfl, rfl, h0, r0⟩ := trodAll_cons hA
  obtain ⟨v1, vs1, d1, ds1, p1, q1, rfl, rfl, rfl, h1, r1⟩ := trodAll_cons r0
  obtain ⟨rfl, rfl, rfl⟩ := trodAll_nil r1
  obtain rfl : args = #[v0, v1] := by cases args; simp_all
  obtain ⟨rfl, rfl⟩ := trodVars_none hV
  obtain ⟨a0, len0, cap0, rfl⟩ := okWide_slice Tryd.underlying52 (hval 0 52 v0 rfl rfl)
  have k0 := h0
  have lt0 : ∀ x ∈ p0, x.block < W.heap.size := by obtain ⟨m, hm⟩ := k0; exact DataW.trod_lt m _ _ _ hm
  have w0 : Hdr.IsFlds W a0 len0 cap0 := by
    obtain ⟨fuel, hf⟩ := h0
    exact Hdr.open_flds hf
  obtain ⟨a1, len1, cap1, rfl⟩ := okWide_slice Tryd.underlying22 (hval 1 22 v1 rfl rfl)
  have k1 := h1
  have lt1 : ∀ x ∈ p1, x.block < W.heap.size := by obtain ⟨m, hm⟩ := k1; exact DataW.trod_lt m _ _ _ hm
  obtain ⟨z1, w1⟩ : ∃ zs, IsRow .u8 W a1 len1 cap1 zs := by
    obtain ⟨fuel, hf⟩ := h1
    rcases open_ints Tryd.underlying22 Tryd.underlying5 (by kernel_rfl) hf with ⟨hcs, _⟩ | ⟨x, l, c, zs, hcs, _, hl, hm, hz, _, hcell, hwz⟩
    · simp [Value.cells] at hcs
      obtain ⟨rfl, rfl, rfl⟩ := hcs
      exact ⟨[], .inl ⟨rfl, rfl, rfl, rfl⟩⟩
    · simp [Value.cells] at hcs
      obtain ⟨rfl, rfl, rfl⟩ := hcs
      exact ⟨zs, .inr ⟨_, rfl, hl, hm, by simpa using hz, hcell, hwz⟩⟩
  clear hA0 hval0
  refine (hw a0 len0 cap0 a1 len1 cap1 z1 W w0 w1 (gl hL hsh)).mono fun e W' ⟨he, bel⟩ => ?_
  subst he
  exact ⟨_, rfl, _, _, _, [], _, [], hW', trodAll_mk1 (shut_bool Tryd.underlying4 _), (trodAll_cons_mk (Below.trod laidOut (by kernel_rfl) (of_decide_eq_true (by kernel_rfl)) k0 bel lt0) (trodAll_cons_mk (Below.trod laidOut (by kernel_rfl) (of_decide_eq_true (by kernel_rfl)) k1 bel lt1) trodAll_mk0)), rfl, bel.frame _, fun h => by cases h⟩

/-- The door's own heap meets the condition. -/
theorem door_met (os : Os) : laidMet Tryd.prog Rows.headerBackRow.laid ((World.laidAll Tryd.prog os Rows.headerBackRow.laid).forCall (fun _ _ => 0) ⟨#[], #[.slice none 0 0, .slice none 0 0], []⟩).memory :=
  laidMet_laidAll _ (by kernel_rfl) (by kernel_rfl)
theorem reads (os : Os) {H : Type} (enc : TypeId × Value → H) : ∃ places, DataW.whole enc Tryd.prog ((World.laidAll Tryd.prog os Rows.headerBackRow.laid).forCall (fun _ _ => 0) ⟨#[], #[.slice none 0 0, .slice none 0 0], []⟩).memory Tryd.f5.params.toList Rows.headerBackSpec.vars false #[Value.slice none 0 0, Value.slice none 0 0].toList 8 = some ([.nil, .nil], [], places) :=
  ⟨[], by kernel_rfl⟩

set_option maxRecDepth 100000 in
theorem lifted (hw : Walks) (os : Os) (started : os.Started) (H : Type) (enc : TypeId × Value → H) (F : Stop.Interp) :
    ReturnsInHanded {} Tryd.checked os 5 .any ((OpenSpec.ofChange Rows.headerBackSpec).preRow enc Tryd.prog Tryd.f5 Rows.headerBackRow.domain false Rows.headerBackRow.laid) (((OpenSpec.ofChange Rows.headerBackSpec).at F).post enc Tryd.prog Tryd.f5 false true false false) := by
  obtain ⟨places, hx⟩ := reads os enc
  refine returnsInHanded_of_row (C := Tryd.checked) (s := OpenSpec.ofChange Rows.headerBackSpec) own started (by kernel_rfl) Tryd.func5
    (witness_row_at (enc := enc) (C := Tryd.checked) false (World.laidAll Tryd.prog os Rows.headerBackRow.laid) #[.slice none 0 0, .slice none 0 0] (World.laidAll_os _ _ _) (by kernel_rfl) (by kernel_rfl) (by kernel_rfl)
      (OpenSpec.preRow_of_cond 8 hx (by kernel_rfl) (fun k hk => by cases hk) (by kernel_rfl) (door_met os))) ?_
  intro W base args ds gs before hval hW _ _ _ hL hsh _
  exact contract hw H enc W base args ds gs before hval hW hL hsh

theorem said (hw : Walks) : Rows.HeaderBackSaid :=
  OpenClaim.holds_of_cond 5 Tryd.f5 rfl rfl rfl rfl rfl rfl rfl ⟨rfl, rfl, rfl, rfl, rfl⟩ rfl rfl rfl rfl rfl (by kernel_rfl) Tryd.func5 (by kernel_rfl)
    (of_decide_eq_true (by kernel_rfl)) (by unfold Func.isWrapper; first | (rw [if_pos (by decide +kernel)]; kernel_rfl) | (rw [if_neg (by decide +kernel)]; exact ⟨rfl, rfl⟩))
    (fun os started H enc _ F => by rw [OpenClaim.pre_eq_preRow]; exact lifted hw os started H enc F)

/-- No parameter wants a stand-in; the program's own looks are off. -/
theorem plain (f : FuncId) (fn : Func) (hf : Tryd.pinned.checked.prog.funcNamed "cordon/cordonlaw11.HeaderBack" = some f) (hfn : Tryd.pinned.checked.prog.funcs[f]? = some fn) :
    false = Tryd.pinned.checked.prog.looks [] ∧ ∀ (j : Nat) t, fn.params[j]? = some t → Tryd.pinned.checked.prog.wantsStandIn t = false := by
  obtain rfl : f = 5 := Option.some.inj ((show Tryd.prog.funcNamed "cordon/cordonlaw11.HeaderBack" = some 5 by kernel_rfl).symm.trans hf) |>.symm
  obtain rfl : fn = Tryd.f5 := (Option.some.inj (Tryd.func5.symm.trans hfn)).symm
  refine ⟨by kernel_rfl, fun j t ht => ?_⟩
  rw [Tryd.params5] at ht
  rcases (show t = 52 ∨ t = 22 by simpa [or_comm] using Array.mem_of_getElem? ht) with rfl | rfl
  · exact (show Tryd.prog.wantsStandIn 52 = false by kernel_rfl)
  · exact (show Tryd.prog.wantsStandIn 22 = false by kernel_rfl)

/-- The card, given the walk. -/
theorem card (hw : Walks) : Rows.HeaderBackCardSaid :=
  Claim7.holds_tied_plain_at .later [] _ _ _ _ (said hw) (fun _ h => by cases h) (by kernel_rfl) (fun _ h => by cases h) headerBack_row_tie rfl ⟨rfl, rfl⟩ (by kernel_rfl) rfl plain (by kernel_rfl)

end Go.Proofs.YtfgjcdjhaihgaaaDoor.headerBack

namespace Go.Proofs.YtfgjcdjhaihgaaaDoor.headerParses
open Go.ChangeShapes Go.WideShapes Go.ChangeAt Go.RowKit Go.Lib
set_option linter.unusedVariables false

theorem own : ownKnob Tryd.prog.godebug = none := by kernel_rfl
theorem laidOut : laidOutB Tryd.prog = true := by kernel_rfl
def u8Ren : Go.Shelf.Ren := ⟨fun n => n, fun | 5 => 5 | 119 => 106 | 138 => 108 | 139 => 109 | n => n, fun | 3 => 1 | 4 => 2 | n => n⟩
theorem u8Types : Go.Proofs.U8Types Tryd.prog u8Ren := { t5 := Tryd.underlying5, t119 := Tryd.underlying106, t138 := Tryd.underlying108, t139 := Tryd.underlying109 }
theorem first_is : Rows.laid_unicode_utf8_first = firstData := Go.Pinned.utf8First_eq
theorem accept_is : Rows.laid_unicode_utf8_acceptRanges = acceptData := by kernel_rfl

def IsRow (k : IntKind) (w : World) (a : Option Addr) (len cap : Nat) (zs : List Int) : Prop :=
  (a = none ∧ len = 0 ∧ cap = 0 ∧ zs = []) ∨
  ∃ x, a = some x ∧ len ≤ cap ∧ cap ≤ maxLen ∧ zs.length = cap ∧ (∀ i, i < zs.length → w.cell? (x.add i) = some (.int k (zs.getD i 0))) ∧ ∀ n ∈ zs, (Lit.int k n).wf = true

/-- The law's walk. -/
def Walks : Prop := ∀ (a0 : Option Addr) (len0 cap0 : Nat) (z0 : List Int) (w : World), IsRow .u8 w a0 len0 cap0 z0 → Hdr.Ug w →
  Calls Tryd.prog 3 #[.slice a0 len0 cap0] w fun e w' => e = .returned (.bool true) ∧ Below w.heap.size w w'

theorem gl {W : World} (hL : laidMetH Tryd.prog Rows.headerParsesRow.laid W) (hsh : W.ShapedOpen Tryd.prog) : Hdr.Ug W := by
  refine ⟨?_, ?_⟩
  · exact cell_of_shapedOpen_int (t := 3) (zero := #[.int .i64 0]) hsh (by decide +kernel) (by kernel_rfl) rfl (by kernel_rfl) (by kernel_rfl) (by kernel_rfl)
  · have hL' : laidMet Tryd.prog Rows.headerParsesRow.laid W := by
      rw [MakeChecks.laidMetH_plain _ _ _ (by kernel_rfl)] at hL; exact hL
    exact utf8Tabs_of_readsT u8Types ⟨by kernel_rfl, by kernel_rfl, by kernel_rfl, by kernel_rfl, by kernel_rfl, by kernel_rfl, by kernel_rfl⟩ (first_is ▸ Lib.laidMet.reads hL' (.tail _ (.head _))) (accept_is ▸ Lib.laidMet.reads hL' (.head _))

set_option maxRecDepth 100000 in
/-- What the walk gives, for every argument and every world that holds the listed tables. -/
theorem contract (hw : Walks) (H : Type) (enc : TypeId × Value → H) (W : World) (base : Nat) (args : Array Value) (ds gs : List (DataW H)) (before : List MemPlace)
    (hval0 : ∀ (j : Nat) t v, Tryd.f3.params[j]? = some t → args[j]? = some v → Value.okWide Tryd.prog W .any base t v)
    (hW : DataW.Whole enc Tryd.prog Tryd.f3.params.toList Rows.headerParsesSpec.vars false W args.toList ds gs before) (hL : laidMetH Tryd.prog Rows.headerParsesRow.laid W) (hsh : W.ShapedOpen Tryd.prog) :
    Calls Tryd.prog 3 args W fun e W' => ∃ v, e = .returned v ∧ Rows.headerParsesSpec.post enc Tryd.prog Tryd.f3 false true false false W args v W' := by
  have hval : ∀ (j : Nat) t v, Tryd.f3.params[j]? = some t → args[j]? = some v → Value.okWide Tryd.prog W .any base t v := hval0
  have hW' := hW
  obtain ⟨p, q, hA0, hV, rfl, hfz, hnd⟩ := hW
  have hA : DataW.TrodAll enc Tryd.prog W 0 (fun _ => true) true Tryd.f3.params.toList args.toList ds p := hA0
  rw [Tryd.params3] at hA hval
  obtain ⟨v0, vs0, d0, ds0, p0, q0, hargs, rfl, rfl, h0, r0⟩ := trodAll_cons hA
  obtain ⟨rfl, rfl, rfl⟩ := trodAll_nil r0
  obtain rfl : args = #[v0] := by cases args; simp_all
  obtain ⟨rfl, rfl⟩ := trodVars_none hV
  obtain ⟨a0, len0, cap0, rfl⟩ := okWide_slice Tryd.underlying22 (hval 0 22 v0 rfl rfl)
  have k0 := h0
  have lt0 : ∀ x ∈ p0, x.block < W.heap.size := by obtain ⟨m, hm⟩ := k0; exact DataW.trod_lt m _ _ _ hm
  obtain ⟨z0, w0⟩ : ∃ zs, IsRow .u8 W a0 len0 cap0 zs := by
    obtain ⟨fuel, hf⟩ := h0
    rcases open_ints Tryd.underlying22 Tryd.underlying5 (by kernel_rfl) hf with ⟨hcs, _⟩ | ⟨x, l, c, zs, hcs, _, hl, hm, hz, _, hcell, hwz⟩
    · simp [Value.cells] at hcs
      obtain ⟨rfl, rfl, rfl⟩ := hcs
      exact ⟨[], .inl ⟨rfl, rfl, rfl, rfl⟩⟩
    · simp [Value.cells] at hcs
      obtain ⟨rfl, rfl, rfl⟩ := hcs
      exact ⟨zs, .inr ⟨_, rfl, hl, hm, by simpa using hz, hcell, hwz⟩⟩
  clear hA0 hval0
  refine (hw a0 len0 cap0 z0 W w0 (gl hL hsh)).mono fun e W' ⟨he, bel⟩ => ?_
  subst he
  exact ⟨_, rfl, _, _, _, [], _, [], hW', trodAll_mk1 (shut_bool Tryd.underlying4 _), (trodAll_cons_mk (Below.trod laidOut (by kernel_rfl) (of_decide_eq_true (by kernel_rfl)) k0 bel lt0) trodAll_mk0), rfl, bel.frame _, fun h => by cases h⟩

/-- The door's own heap meets the condition. -/
theorem door_met (os : Os) : laidMet Tryd.prog Rows.headerParsesRow.laid ((World.laidAll Tryd.prog os Rows.headerParsesRow.laid).forCall (fun _ _ => 0) ⟨#[], #[.slice none 0 0], []⟩).memory :=
  laidMet_laidAll _ (by kernel_rfl) (by kernel_rfl)
theorem reads (os : Os) {H : Type} (enc : TypeId × Value → H) : ∃ places, DataW.whole enc Tryd.prog ((World.laidAll Tryd.prog os Rows.headerParsesRow.laid).forCall (fun _ _ => 0) ⟨#[], #[.slice none 0 0], []⟩).memory Tryd.f3.params.toList Rows.headerParsesSpec.vars false #[Value.slice none 0 0].toList 8 = some ([.nil], [], places) :=
  ⟨[], by kernel_rfl⟩

set_option maxRecDepth 100000 in
theorem lifted (hw : Walks) (os : Os) (started : os.Started) (H : Type) (enc : TypeId × Value → H) (F : Stop.Interp) :
    ReturnsInHanded {} Tryd.checked os 3 .any ((OpenSpec.ofChange Rows.headerParsesSpec).preRow enc Tryd.prog Tryd.f3 Rows.headerParsesRow.domain false Rows.headerParsesRow.laid) (((OpenSpec.ofChange Rows.headerParsesSpec).at F).post enc Tryd.prog Tryd.f3 false true false false) := by
  obtain ⟨places, hx⟩ := reads os enc
  refine returnsInHanded_of_row (C := Tryd.checked) (s := OpenSpec.ofChange Rows.headerParsesSpec) own started (by kernel_rfl) Tryd.func3
    (witness_row_at (enc := enc) (C := Tryd.checked) false (World.laidAll Tryd.prog os Rows.headerParsesRow.laid) #[.slice none 0 0] (World.laidAll_os _ _ _) (by kernel_rfl) (by kernel_rfl) (by kernel_rfl)
      (OpenSpec.preRow_of_cond 8 hx (by kernel_rfl) (fun k hk => by cases hk) (by kernel_rfl) (door_met os))) ?_
  intro W base args ds gs before hval hW _ _ _ hL hsh _
  exact contract hw H enc W base args ds gs before hval hW hL hsh

theorem said (hw : Walks) : Rows.HeaderParsesSaid :=
  OpenClaim.holds_of_cond 3 Tryd.f3 rfl rfl rfl rfl rfl rfl rfl ⟨rfl, rfl, rfl, rfl, rfl⟩ rfl rfl rfl rfl rfl (by kernel_rfl) Tryd.func3 (by kernel_rfl)
    (of_decide_eq_true (by kernel_rfl)) (by unfold Func.isWrapper; first | (rw [if_pos (by decide +kernel)]; kernel_rfl) | (rw [if_neg (by decide +kernel)]; exact ⟨rfl, rfl⟩))
    (fun os started H enc _ F => by rw [OpenClaim.pre_eq_preRow]; exact lifted hw os started H enc F)

/-- No parameter wants a stand-in; the program's own looks are off. -/
theorem plain (f : FuncId) (fn : Func) (hf : Tryd.pinned.checked.prog.funcNamed "cordon/cordonlaw11.HeaderParses" = some f) (hfn : Tryd.pinned.checked.prog.funcs[f]? = some fn) :
    false = Tryd.pinned.checked.prog.looks [] ∧ ∀ (j : Nat) t, fn.params[j]? = some t → Tryd.pinned.checked.prog.wantsStandIn t = false := by
  obtain rfl : f = 3 := Option.some.inj ((show Tryd.prog.funcNamed "cordon/cordonlaw11.HeaderParses" = some 3 by kernel_rfl).symm.trans hf) |>.symm
  obtain rfl : fn = Tryd.f3 := (Option.some.inj (Tryd.func3.symm.trans hfn)).symm
  refine ⟨by kernel_rfl, fun j t ht => ?_⟩
  rw [Tryd.params3] at ht
  obtain rfl : t = 22 := by simpa using Array.mem_of_getElem? ht
  exact (show Tryd.prog.wantsStandIn 22 = false by kernel_rfl)

/-- The card, given the walk. -/
theorem card (hw : Walks) : Rows.HeaderParsesCardSaid :=
  Claim7.holds_tied_plain_at .later [] _ _ _ _ (said hw) (fun _ h => by cases h) (by kernel_rfl) (fun _ h => by cases h) headerParses_row_tie rfl ⟨rfl, rfl⟩ (by kernel_rfl) rfl plain (by kernel_rfl)

end Go.Proofs.YtfgjcdjhaihgaaaDoor.headerParses

namespace Go.Proofs.YtfgjcdjhaihgaaaDoor.headerTells
open Go.ChangeShapes Go.WideShapes Go.ChangeAt Go.RowKit Go.Lib
set_option linter.unusedVariables false

theorem own : ownKnob Tryd.prog.godebug = none := by kernel_rfl
theorem laidOut : laidOutB Tryd.prog = true := by kernel_rfl
def u8Ren : Go.Shelf.Ren := ⟨fun n => n, fun | 5 => 5 | 119 => 106 | 138 => 108 | 139 => 109 | n => n, fun | 3 => 1 | 4 => 2 | n => n⟩
theorem u8Types : Go.Proofs.U8Types Tryd.prog u8Ren := { t5 := Tryd.underlying5, t119 := Tryd.underlying106, t138 := Tryd.underlying108, t139 := Tryd.underlying109 }
theorem first_is : Rows.laid_unicode_utf8_first = firstData := Go.Pinned.utf8First_eq
theorem accept_is : Rows.laid_unicode_utf8_acceptRanges = acceptData := by kernel_rfl

def IsRow (k : IntKind) (w : World) (a : Option Addr) (len cap : Nat) (zs : List Int) : Prop :=
  (a = none ∧ len = 0 ∧ cap = 0 ∧ zs = []) ∨
  ∃ x, a = some x ∧ len ≤ cap ∧ cap ≤ maxLen ∧ zs.length = cap ∧ (∀ i, i < zs.length → w.cell? (x.add i) = some (.int k (zs.getD i 0))) ∧ ∀ n ∈ zs, (Lit.int k n).wf = true

/-- The law's walk. -/
def Walks : Prop := ∀ (a0 : Option Addr) (len0 cap0 : Nat) (z0 : List Int) (a1 : ByteArray) (w : World), IsRow .u8 w a0 len0 cap0 z0 → a1.size ≤ maxLen → Hdr.Ug w →
  Calls Tryd.prog 4 #[.slice a0 len0 cap0, .string a1] w fun e w' => e = .returned (.bool true) ∧ Below w.heap.size w w'

theorem gl {W : World} (hL : laidMetH Tryd.prog Rows.headerTellsRow.laid W) (hsh : W.ShapedOpen Tryd.prog) : Hdr.Ug W := by
  refine ⟨?_, ?_⟩
  · exact cell_of_shapedOpen_int (t := 3) (zero := #[.int .i64 0]) hsh (by decide +kernel) (by kernel_rfl) rfl (by kernel_rfl) (by kernel_rfl) (by kernel_rfl)
  · have hL' : laidMet Tryd.prog Rows.headerTellsRow.laid W := by
      rw [MakeChecks.laidMetH_plain _ _ _ (by kernel_rfl)] at hL; exact hL
    exact utf8Tabs_of_readsT u8Types ⟨by kernel_rfl, by kernel_rfl, by kernel_rfl, by kernel_rfl, by kernel_rfl, by kernel_rfl, by kernel_rfl⟩ (first_is ▸ Lib.laidMet.reads hL' (.tail _ (.head _))) (accept_is ▸ Lib.laidMet.reads hL' (.head _))

set_option maxRecDepth 100000 in
/-- What the walk gives, for every argument and every world that holds the listed tables. -/
theorem contract (hw : Walks) (H : Type) (enc : TypeId × Value → H) (W : World) (base : Nat) (args : Array Value) (ds gs : List (DataW H)) (before : List MemPlace)
    (hval0 : ∀ (j : Nat) t v, Tryd.f4.params[j]? = some t → args[j]? = some v → Value.okWide Tryd.prog W .any base t v)
    (hW : DataW.Whole enc Tryd.prog Tryd.f4.params.toList Rows.headerTellsSpec.vars false W args.toList ds gs before) (hL : laidMetH Tryd.prog Rows.headerTellsRow.laid W) (hsh : W.ShapedOpen Tryd.prog) :
    Calls Tryd.prog 4 args W fun e W' => ∃ v, e = .returned v ∧ Rows.headerTellsSpec.post enc Tryd.prog Tryd.f4 false true false false W args v W' := by
  have hval : ∀ (j : Nat) t v, Tryd.f4.params[j]? = some t → args[j]? = some v → Value.okWide Tryd.prog W .any base t v := hval0
  have hW' := hW
  obtain ⟨p, q, hA0, hV, rfl, hfz, hnd⟩ := hW
  have hA : DataW.TrodAll enc Tryd.prog W 0 (fun _ => true) true Tryd.f4.params.toList args.toList ds p := hA0
  rw [Tryd.params4] at hA hval
  obtain ⟨v0, vs0, d0, ds0, p0, q0, hargs, rfl, rfl, h0, r0⟩ := trodAll_cons hA
  obtain ⟨v1, vs1, d1, ds1, p1, q1, rfl, rfl, rfl, h1, r1⟩ := trodAll_cons r0
  obtain ⟨rfl, rfl, rfl⟩ := trodAll_nil r1
  obtain rfl : args = #[v0, v1] := by cases args; simp_all
  obtain ⟨rfl, rfl⟩ := trodVars_none hV
  obtain ⟨a0, len0, cap0, rfl⟩ := okWide_slice Tryd.underlying22 (hval 0 22 v0 rfl rfl)
  have k0 := h0
  have lt0 : ∀ x ∈ p0, x.block < W.heap.size := by obtain ⟨m, hm⟩ := k0; exact DataW.trod_lt m _ _ _ hm
  obtain ⟨z0, w0⟩ : ∃ zs, IsRow .u8 W a0 len0 cap0 zs := by
    obtain ⟨fuel, hf⟩ := h0
    rcases open_ints Tryd.underlying22 Tryd.underlying5 (by kernel_rfl) hf with ⟨hcs, _⟩ | ⟨x, l, c, zs, hcs, _, hl, hm, hz, _, hcell, hwz⟩
    · simp [Value.cells] at hcs
      obtain ⟨rfl, rfl, rfl⟩ := hcs
      exact ⟨[], .inl ⟨rfl, rfl, rfl, rfl⟩⟩
    · simp [Value.cells] at hcs
      obtain ⟨rfl, rfl, rfl⟩ := hcs
      exact ⟨zs, .inr ⟨_, rfl, hl, hm, by simpa using hz, hcell, hwz⟩⟩
  obtain ⟨a1, rfl, rfl, rfl, w1⟩ := Go.ChangeMaps.open_string Tryd.underlying9 (hval 1 9 v1 rfl rfl) h1
  clear hA0 hval0
  refine (hw a0 len0 cap0 z0 a1 W w0 w1 (gl hL hsh)).mono fun e W' ⟨he, bel⟩ => ?_
  subst he
  exact ⟨_, rfl, _, _, _, [], _, [], hW', trodAll_mk1 (shut_bool Tryd.underlying4 _), (trodAll_cons_mk (Below.trod laidOut (by kernel_rfl) (of_decide_eq_true (by kernel_rfl)) k0 bel lt0) (trodAll_cons_mk (Go.ChangeMaps.shut_string Tryd.underlying9 w1) trodAll_mk0)), rfl, bel.frame _, fun h => by cases h⟩

/-- The door's own heap meets the condition. -/
theorem door_met (os : Os) : laidMet Tryd.prog Rows.headerTellsRow.laid ((World.laidAll Tryd.prog os Rows.headerTellsRow.laid).forCall (fun _ _ => 0) ⟨#[], #[.slice none 0 0, .string ByteArray.empty], []⟩).memory :=
  laidMet_laidAll _ (by kernel_rfl) (by kernel_rfl)
theorem reads (os : Os) {H : Type} (enc : TypeId × Value → H) : ∃ places, DataW.whole enc Tryd.prog ((World.laidAll Tryd.prog os Rows.headerTellsRow.laid).forCall (fun _ _ => 0) ⟨#[], #[.slice none 0 0, .string ByteArray.empty], []⟩).memory Tryd.f4.params.toList Rows.headerTellsSpec.vars false #[Value.slice none 0 0, Value.string ByteArray.empty].toList 8 = some ([.nil, .lit (.string [])], [], places) :=
  ⟨[], by kernel_rfl⟩

set_option maxRecDepth 100000 in
theorem lifted (hw : Walks) (os : Os) (started : os.Started) (H : Type) (enc : TypeId × Value → H) (F : Stop.Interp) :
    ReturnsInHanded {} Tryd.checked os 4 .any ((OpenSpec.ofChange Rows.headerTellsSpec).preRow enc Tryd.prog Tryd.f4 Rows.headerTellsRow.domain false Rows.headerTellsRow.laid) (((OpenSpec.ofChange Rows.headerTellsSpec).at F).post enc Tryd.prog Tryd.f4 false true false false) := by
  obtain ⟨places, hx⟩ := reads os enc
  refine returnsInHanded_of_row (C := Tryd.checked) (s := OpenSpec.ofChange Rows.headerTellsSpec) own started (by kernel_rfl) Tryd.func4
    (witness_row_at (enc := enc) (C := Tryd.checked) false (World.laidAll Tryd.prog os Rows.headerTellsRow.laid) #[.slice none 0 0, .string ByteArray.empty] (World.laidAll_os _ _ _) (by kernel_rfl) (by kernel_rfl) (by kernel_rfl)
      (OpenSpec.preRow_of_cond 8 hx (by kernel_rfl) (fun k hk => by cases hk) (by kernel_rfl) (door_met os))) ?_
  intro W base args ds gs before hval hW _ _ _ hL hsh _
  exact contract hw H enc W base args ds gs before hval hW hL hsh

theorem said (hw : Walks) : Rows.HeaderTellsSaid :=
  OpenClaim.holds_of_cond 4 Tryd.f4 rfl rfl rfl rfl rfl rfl rfl ⟨rfl, rfl, rfl, rfl, rfl⟩ rfl rfl rfl rfl rfl (by kernel_rfl) Tryd.func4 (by kernel_rfl)
    (of_decide_eq_true (by kernel_rfl)) (by unfold Func.isWrapper; first | (rw [if_pos (by decide +kernel)]; kernel_rfl) | (rw [if_neg (by decide +kernel)]; exact ⟨rfl, rfl⟩))
    (fun os started H enc _ F => by rw [OpenClaim.pre_eq_preRow]; exact lifted hw os started H enc F)

/-- No parameter wants a stand-in; the program's own looks are off. -/
theorem plain (f : FuncId) (fn : Func) (hf : Tryd.pinned.checked.prog.funcNamed "cordon/cordonlaw11.HeaderTells" = some f) (hfn : Tryd.pinned.checked.prog.funcs[f]? = some fn) :
    false = Tryd.pinned.checked.prog.looks [] ∧ ∀ (j : Nat) t, fn.params[j]? = some t → Tryd.pinned.checked.prog.wantsStandIn t = false := by
  obtain rfl : f = 4 := Option.some.inj ((show Tryd.prog.funcNamed "cordon/cordonlaw11.HeaderTells" = some 4 by kernel_rfl).symm.trans hf) |>.symm
  obtain rfl : fn = Tryd.f4 := (Option.some.inj (Tryd.func4.symm.trans hfn)).symm
  refine ⟨by kernel_rfl, fun j t ht => ?_⟩
  rw [Tryd.params4] at ht
  rcases (show t = 22 ∨ t = 9 by simpa [or_comm] using Array.mem_of_getElem? ht) with rfl | rfl
  · exact (show Tryd.prog.wantsStandIn 22 = false by kernel_rfl)
  · exact (show Tryd.prog.wantsStandIn 9 = false by kernel_rfl)

/-- The card, given the walk. -/
theorem card (hw : Walks) : Rows.HeaderTellsCardSaid :=
  Claim7.holds_tied_plain_at .later [] _ _ _ _ (said hw) (fun _ h => by cases h) (by kernel_rfl) (fun _ h => by cases h) headerTells_row_tie rfl ⟨rfl, rfl⟩ (by kernel_rfl) rfl plain (by kernel_rfl)

end Go.Proofs.YtfgjcdjhaihgaaaDoor.headerTells

namespace Go.Proofs.YtfgjcdjhaihgaaaDoor.headerLong
open Go.ChangeShapes Go.WideShapes Go.ChangeAt Go.RowKit Go.Lib
set_option linter.unusedVariables false

theorem own : ownKnob Tryd.prog.godebug = none := by kernel_rfl
theorem laidOut : laidOutB Tryd.prog = true := by kernel_rfl
def u8Ren : Go.Shelf.Ren := ⟨fun n => n, fun | 5 => 5 | 119 => 106 | 138 => 108 | 139 => 109 | n => n, fun | 3 => 1 | 4 => 2 | n => n⟩
theorem u8Types : Go.Proofs.U8Types Tryd.prog u8Ren := { t5 := Tryd.underlying5, t119 := Tryd.underlying106, t138 := Tryd.underlying108, t139 := Tryd.underlying109 }
theorem first_is : Rows.laid_unicode_utf8_first = firstData := Go.Pinned.utf8First_eq
theorem accept_is : Rows.laid_unicode_utf8_acceptRanges = acceptData := by kernel_rfl

def IsRow (k : IntKind) (w : World) (a : Option Addr) (len cap : Nat) (zs : List Int) : Prop :=
  (a = none ∧ len = 0 ∧ cap = 0 ∧ zs = []) ∨
  ∃ x, a = some x ∧ len ≤ cap ∧ cap ≤ maxLen ∧ zs.length = cap ∧ (∀ i, i < zs.length → w.cell? (x.add i) = some (.int k (zs.getD i 0))) ∧ ∀ n ∈ zs, (Lit.int k n).wf = true

/-- The law's walk. -/
def Walks : Prop := ∀ (a0 : Int) (a1 : Option Addr) (len1 cap1 : Nat) (z1 : List Int) (w : World), (Lit.int .i64 a0).wf = true → IsRow .u8 w a1 len1 cap1 z1 → Hdr.Ug w →
  Calls Tryd.prog 6 #[.int .i64 a0, .slice a1 len1 cap1] w fun e w' => e = .returned (.bool true) ∧ Below w.heap.size w w'

theorem gl {W : World} (hL : laidMetH Tryd.prog Rows.headerLongRow.laid W) (hsh : W.ShapedOpen Tryd.prog) : Hdr.Ug W := by
  refine ⟨?_, ?_⟩
  · exact cell_of_shapedOpen_int (t := 3) (zero := #[.int .i64 0]) hsh (by decide +kernel) (by kernel_rfl) rfl (by kernel_rfl) (by kernel_rfl) (by kernel_rfl)
  · have hL' : laidMet Tryd.prog Rows.headerLongRow.laid W := by
      rw [MakeChecks.laidMetH_plain _ _ _ (by kernel_rfl)] at hL; exact hL
    exact utf8Tabs_of_readsT u8Types ⟨by kernel_rfl, by kernel_rfl, by kernel_rfl, by kernel_rfl, by kernel_rfl, by kernel_rfl, by kernel_rfl⟩ (first_is ▸ Lib.laidMet.reads hL' (.tail _ (.head _))) (accept_is ▸ Lib.laidMet.reads hL' (.head _))

set_option maxRecDepth 100000 in
/-- What the walk gives, for every argument and every world that holds the listed tables. -/
theorem contract (hw : Walks) (H : Type) (enc : TypeId × Value → H) (W : World) (base : Nat) (args : Array Value) (ds gs : List (DataW H)) (before : List MemPlace)
    (hval0 : ∀ (j : Nat) t v, Tryd.f6.params[j]? = some t → args[j]? = some v → Value.okWide Tryd.prog W .any base t v)
    (hW : DataW.Whole enc Tryd.prog Tryd.f6.params.toList Rows.headerLongSpec.vars false W args.toList ds gs before) (hL : laidMetH Tryd.prog Rows.headerLongRow.laid W) (hsh : W.ShapedOpen Tryd.prog) :
    Calls Tryd.prog 6 args W fun e W' => ∃ v, e = .returned v ∧ Rows.headerLongSpec.post enc Tryd.prog Tryd.f6 false true false false W args v W' := by
  have hval : ∀ (j : Nat) t v, Tryd.f6.params[j]? = some t → args[j]? = some v → Value.okWide Tryd.prog W .any base t v := hval0
  have hW' := hW
  obtain ⟨p, q, hA0, hV, rfl, hfz, hnd⟩ := hW
  have hA : DataW.TrodAll enc Tryd.prog W 0 (fun _ => true) true Tryd.f6.params.toList args.toList ds p := hA0
  rw [Tryd.params6] at hA hval
  obtain ⟨v0, vs0, d0, ds0, p0, q0, hargs, rfl, rfl, h0, r0⟩ := trodAll_cons hA
  obtain ⟨v1, vs1, d1, ds1, p1, q1, rfl, rfl, rfl, h1, r1⟩ := trodAll_cons r0
  obtain ⟨rfl, rfl, rfl⟩ := trodAll_nil r1
  obtain rfl : args = #[v0, v1] := by cases args; simp_all
  obtain ⟨rfl, rfl⟩ := trodVars_none hV
  obtain ⟨a0, rfl, rfl, rfl, w0⟩ := open_int Tryd.underlying3 (hval 0 3 v0 rfl rfl) h0
  obtain ⟨a1, len1, cap1, rfl⟩ := okWide_slice Tryd.underlying22 (hval 1 22 v1 rfl rfl)
  have k1 := h1
  have lt1 : ∀ x ∈ p1, x.block < W.heap.size := by obtain ⟨m, hm⟩ := k1; exact DataW.trod_lt m _ _ _ hm
  obtain ⟨z1, w1⟩ : ∃ zs, IsRow .u8 W a1 len1 cap1 zs := by
    obtain ⟨fuel, hf⟩ := h1
    rcases open_ints Tryd.underlying22 Tryd.underlying5 (by kernel_rfl) hf with ⟨hcs, _⟩ | ⟨x, l, c, zs, hcs, _, hl, hm, hz, _, hcell, hwz⟩
    · simp [Value.cells] at hcs
      obtain ⟨rfl, rfl, rfl⟩ := hcs
      exact ⟨[], .inl ⟨rfl, rfl, rfl, rfl⟩⟩
    · simp [Value.cells] at hcs
      obtain ⟨rfl, rfl, rfl⟩ := hcs
      exact ⟨zs, .inr ⟨_, rfl, hl, hm, by simpa using hz, hcell, hwz⟩⟩
  clear hA0 hval0
  refine (hw a0 a1 len1 cap1 z1 W w0 w1 (gl hL hsh)).mono fun e W' ⟨he, bel⟩ => ?_
  subst he
  exact ⟨_, rfl, _, _, _, [], _, [], hW', trodAll_mk1 (shut_bool Tryd.underlying4 _), (trodAll_cons_mk (shut_int Tryd.underlying3 w0) (trodAll_cons_mk (Below.trod laidOut (by kernel_rfl) (of_decide_eq_true (by kernel_rfl)) k1 bel lt1) trodAll_mk0)), rfl, bel.frame _, fun h => by cases h⟩

/-- The door's own heap meets the condition. -/
theorem door_met (os : Os) : laidMet Tryd.prog Rows.headerLongRow.laid ((World.laidAll Tryd.prog os Rows.headerLongRow.laid).forCall (fun _ _ => 0) ⟨#[], #[.int .i64 0, .slice none 0 0], []⟩).memory :=
  laidMet_laidAll _ (by kernel_rfl) (by kernel_rfl)
theorem reads (os : Os) {H : Type} (enc : TypeId × Value → H) : ∃ places, DataW.whole enc Tryd.prog ((World.laidAll Tryd.prog os Rows.headerLongRow.laid).forCall (fun _ _ => 0) ⟨#[], #[.int .i64 0, .slice none 0 0], []⟩).memory Tryd.f6.params.toList Rows.headerLongSpec.vars false #[Value.int .i64 0, Value.slice none 0 0].toList 8 = some ([.lit (.int .i64 0), .nil], [], places) :=
  ⟨[], by kernel_rfl⟩

set_option maxRecDepth 100000 in
theorem lifted (hw : Walks) (os : Os) (started : os.Started) (H : Type) (enc : TypeId × Value → H) (F : Stop.Interp) :
    ReturnsInHanded {} Tryd.checked os 6 .any ((OpenSpec.ofChange Rows.headerLongSpec).preRow enc Tryd.prog Tryd.f6 Rows.headerLongRow.domain false Rows.headerLongRow.laid) (((OpenSpec.ofChange Rows.headerLongSpec).at F).post enc Tryd.prog Tryd.f6 false true false false) := by
  obtain ⟨places, hx⟩ := reads os enc
  refine returnsInHanded_of_row (C := Tryd.checked) (s := OpenSpec.ofChange Rows.headerLongSpec) own started (by kernel_rfl) Tryd.func6
    (witness_row_at (enc := enc) (C := Tryd.checked) false (World.laidAll Tryd.prog os Rows.headerLongRow.laid) #[.int .i64 0, .slice none 0 0] (World.laidAll_os _ _ _) (by kernel_rfl) (by kernel_rfl) (by kernel_rfl)
      (OpenSpec.preRow_of_cond 8 hx (by kernel_rfl) (fun k hk => by cases hk) (by kernel_rfl) (door_met os))) ?_
  intro W base args ds gs before hval hW _ _ _ hL hsh _
  exact contract hw H enc W base args ds gs before hval hW hL hsh

theorem said (hw : Walks) : Rows.HeaderLongSaid :=
  OpenClaim.holds_of_cond 6 Tryd.f6 rfl rfl rfl rfl rfl rfl rfl ⟨rfl, rfl, rfl, rfl, rfl⟩ rfl rfl rfl rfl rfl (by kernel_rfl) Tryd.func6 (by kernel_rfl)
    (of_decide_eq_true (by kernel_rfl)) (by unfold Func.isWrapper; first | (rw [if_pos (by decide +kernel)]; kernel_rfl) | (rw [if_neg (by decide +kernel)]; exact ⟨rfl, rfl⟩))
    (fun os started H enc _ F => by rw [OpenClaim.pre_eq_preRow]; exact lifted hw os started H enc F)

/-- No parameter wants a stand-in; the program's own looks are off. -/
theorem plain (f : FuncId) (fn : Func) (hf : Tryd.pinned.checked.prog.funcNamed "cordon/cordonlaw11.HeaderLong" = some f) (hfn : Tryd.pinned.checked.prog.funcs[f]? = some fn) :
    false = Tryd.pinned.checked.prog.looks [] ∧ ∀ (j : Nat) t, fn.params[j]? = some t → Tryd.pinned.checked.prog.wantsStandIn t = false := by
  obtain rfl : f = 6 := Option.some.inj ((show Tryd.prog.funcNamed "cordon/cordonlaw11.HeaderLong" = some 6 by kernel_rfl).symm.trans hf) |>.symm
  obtain rfl : fn = Tryd.f6 := (Option.some.inj (Tryd.func6.symm.trans hfn)).symm
  refine ⟨by kernel_rfl, fun j t ht => ?_⟩
  rw [Tryd.params6] at ht
  rcases (show t = 22 ∨ t = 3 by simpa [or_comm] using Array.mem_of_getElem? ht) with rfl | rfl
  · exact (show Tryd.prog.wantsStandIn 22 = false by kernel_rfl)
  · exact (show Tryd.prog.wantsStandIn 3 = false by kernel_rfl)

/-- The card, given the walk. -/
theorem card (hw : Walks) : Rows.HeaderLongCardSaid :=
  Claim7.holds_tied_plain_at .later [] _ _ _ _ (said hw) (fun _ h => by cases h) (by kernel_rfl) (fun _ h => by cases h) headerLong_row_tie rfl ⟨rfl, rfl⟩ (by kernel_rfl) rfl plain (by kernel_rfl)

end Go.Proofs.YtfgjcdjhaihgaaaDoor.headerLong
