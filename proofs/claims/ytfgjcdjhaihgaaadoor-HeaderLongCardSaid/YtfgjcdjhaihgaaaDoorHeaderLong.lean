/- HeaderLong: the law returns true at whatever input, and writes nothing that was there: its tied card. Conditions: none. -/
import Derived.Test.YtfgjcdjhaihgaaaDoorBaseB
import Derived.Lib.AppendStr
import Derived.Deep.DeepCutAuto
namespace Go.Proofs.YtfgjcdjhaihgaaaDoor.headerLong
open Go.RowKit Go.ChangeShapes Go.WideShapes
open Go.Shelf Url Hdr
attribute [local go_sem] Oper.semAt_some
set_option linter.unusedVariables false

theorem row_by {w : World} {a : Option Addr} {len cap : Nat} {zs : List Int} (h : IsRow .u8 w a len cap zs) : ∃ bs : List UInt8, By w (.slice a len cap) bs := by
  rcases h with ⟨rfl, rfl, rfl, rfl⟩ | ⟨x, rfl, h1, h2, h3, h4, h5⟩
  · exact ⟨[], by_nil w⟩
  · have hz : ∀ i, i < len → (Lib.numsL (Lib.bytesOf (zs.take len))).getD i 0 = zs.getD i 0 := fun i hi => by
      have hi' : i < zs.length := by omega
      have hw := bounds_u8 (h5 _ (List.getElem_mem hi'))
      have : (Lib.bytesOf (zs.take len)).getD i 0 = UInt8.ofNat (zs[i]).toNat := by
        simp [Lib.bytesOf, List.getD, hi, List.getElem?_eq_getElem hi']
      rw [numsL_getD _ _ (by simp [Lib.bytesOf]; omega), this, List.getD, List.getElem?_eq_getElem hi']
      simp only [Option.getD_some, UInt8.toNat_ofNat']
      omega
    refine ⟨Lib.bytesOf (zs.take len), By.of (by simp [Lib.bytesOf]; omega) h1 h2 (fun h => by cases h) (Lib.BytesIn.of_cells fun i hi => ?_)⟩
    rw [hz i hi]
    exact h4 i (by omega)

theorem num_of (a : Int) : ∃ n : Nat, n < 70 ∧ wrap64 ((IntKind.u64.wrap a).tmod 70) = (n : Int) := by
  have hu := wrap_u64_nonneg a
  have ht : (IntKind.u64.wrap a).tmod 70 = IntKind.u64.wrap a % 70 := Int.tmod_eq_emod_of_nonneg hu
  refine ⟨(IntKind.u64.wrap a % 70).toNat, by omega, ?_⟩
  rw [ht]
  unfold wrap64
  omega
theorem long_len (n : Nat) : (longT n).length = 5 * n := by
  unfold longT
  induction n with
  | zero => rfl
  | succ n ih => rw [List.replicate_succ, List.flatten_cons, List.length_append, ih]; simp; omega
theorem long_snoc (k : Nat) : byV (longT (k + 1)) = byV (longT k) ++ Lib.strCells ⟨#[97, 58, 32, 98, 10]⟩ := by
  have h : longT (k + 1) = longT k ++ [97, 58, 32, 98, 10] := by
    unfold longT
    rw [List.replicate_succ', List.flatten_append]; simp
  rw [h, byV_app]; rfl
set_option maxHeartbeats 16000000 in
set_option maxRecDepth 100000 in
theorem walk : Walks := by
  intro a0 a1 len1 cap1 z1 w w0 w1 hG
  have HGU := Lib.hid hG
  clear hG
  obtain ⟨bs, hY⟩ := row_by w1
  have hl1 := hY.at.1
  clear w1 w0
  by_cases hbig : 100 < len1
  · have d1 : decide ((100 : Int) < (len1 : Int)) = true := by simp; omega
    clear hl1 hY
    go_enter Tryd.func6, Tryd.ntmps6
    go_wp2_with fail
    refine (lives_any _ (HGU.out.on (by first | exact Below.refl _ _ | assumption))).mono ?_
    rintro e w2 ⟨rfl, hb2⟩
    go_wp2_with fail
    refine (lives_any _ (HGU.out.on (by first | exact Below.refl _ _ | assumption))).mono ?_
    rintro e w3 ⟨rfl, hb3⟩
    go_wp2
    go_ret
    exact ⟨rfl, hb2.trans (hb3.mono hb2.size)⟩
  · have d1 : decide ((100 : Int) < (len1 : Int)) = false := by simp; omega
    obtain ⟨n, hn, hN⟩ := num_of a0
    have HL1 := Lib.hid (show bs.length ≤ 100 by omega)
    have HN := Lib.hid hN
    clear hl1 hN
    go_enter Tryd.func6, Tryd.ntmps6
    go_wp2_with fail
    refine (lives_any _ (HGU.out.on (by first | exact Below.refl _ _ | assumption))).mono ?_
    rintro e w2 ⟨rfl, B2⟩
    replace hY := hY.on B2
    clear hbig
    go_wp2_with fail
    rw [HN.out]
    clear HN d1
    go_loopw [5, 25] (fun t i wr => ∃ k : Nat, k ≤ n ∧ i = .int .i64 k ∧ wr.ownsRow w2.heap.size 5 1 t (5 * k) (byV (longT k)) ∧ Below w2.heap.size w2 wr) (fun _ i _ => n - (intOf i).toNat)
    case atStart => exact ⟨0, Nat.zero_le _, rfl, World.ownsRow_nil _ _ _ _, Below.refl _ _⟩
    case round =>
      obtain ⟨k, hk, rfl, hrow, hB⟩ := hrel
      obtain ⟨i0, hi0, hz0, hz1, hz2⟩ := info_parts info_u8
      have hbs := hB.size
      by_cases hlt : k < n
      · have HS := Lib.hid (long_snoc k)
        go_wp2_with (at_builtin; refine Lib.wpList_append_own_string (w := wr) rfl _ _ 22 9 rfl w2.heap.size 5 i0 Tryd.underlying22 Tryd.underlying9 hi0 hz0 hz1 hz2 _ _ _ rfl hrow ⟨#[97, 58, 32, 98, 10]⟩ rfl (by unfold maxLen; show 5 * k + 5 ≤ _; omega) (by show 5 * k + 5 ≤ _; omega) hbs ?_; intro v' w1 hown hgrow _)
        have hb1 := grown_below hrow hgrow hbs
        rw [← HS.out] at hown
        go_roundw
        case rel => exact ⟨k + 1, by omega, by go_num, hown, hB.trans hb1⟩
        case measure => simp [intOf]; omega
      · obtain rfl : k = n := by omega
        have hlen := long_len k
        have hT := By.row hrow
        obtain ⟨q5, c5, rfl, hl5, hT⟩ : ∃ q c, u5 = .slice q (5 * k) c ∧ (longT k).length = 5 * k ∧ By wr (.slice q (5 * k) c) (longT k) := by
          obtain ⟨q, c, rfl, h⟩ := hT
          exact ⟨q, c, by rw [hlen], hlen, by rw [← hlen]; exact ⟨q, c, rfl, h⟩⟩
        have BW := B2.trans (hB.mono B2.size)
        replace hY := hY.on ((hB.mono (Nat.le_refl _)))
        have con := Parse_any _ _ _ _ _ (HGU.out.on BW) hT (by omega)
        have HT := Lib.hid hT
        have HRW := Lib.hid hrow
        have HBS := Lib.hid hbs
        have HLL := Lib.hid hl5
        clear hlt hk hlen hT hrow hbs hl5 hB
        by_cases h64 : 64 < k
        · have d64 : decide ((64 : Int) < (k : Int)) = true := by simp; omega
          have hP := long_parse k [] h64
          rw [List.append_nil] at hP
          rw [hP] at con
          have HP2 := Lib.hid (long_parse k bs h64)
          clear hP h64
          go_wp2_with fail
          refine con.mono ?_
          rintro e w4 ⟨q, m, c, q2, m2, c2, rfl, hH, _, hb⟩
          simp only [pE, pH] at hH ⊢
          obtain rfl : 0 = m := hH.len
          have B4 := BW.trans (hb.mono BW.size)
          replace hY := hY.on hb
          have hr4 := (Keep.of_below hb).row HRW.out (fun b h => (HRW.out.lt b h).2)
          have hbl : bs.length ≤ 100 := HL1.out
          have hown5 := Lib.hid (show ∀ b, (Value.slice q5 (5 * k) c5).ownBlock = some b → b < wr.heap.size from fun b h => (HRW.out.lt b h).2)
          have HWR := Lib.hid (show wr.heap.size ≤ w4.heap.size from hb.size)
          have H5 := HX.new hH
          have hb5 : Below w4.heap.size w4 (w4.alloc (.cells #[.slice q 0 c] 26)) := (Below.refl _ w4).alloc (Nat.le_refl _) _
          have B5 := B4.trans (hb5.mono B4.size)
          replace hY := hY.on hb5
          have hr5 := (Keep.of_below hb5).row hr4 (fun b h => (hr4.lt b h).2)
          have hsz5 : w2.heap.size ≤ (w4.alloc (.cells #[.slice q 0 c] 26)).heap.size := by have := HBS.out; have := hb.size; have := hb5.size; omega
          clear con hH hb hr4 hb5 B4 BW HT HRW
          go_wp2_with (at_builtin; go_must (refine wpList_append_by rfl _ _ rfl w2.heap.size _ _ _ rfl hr5 _ bs rfl hY (by omega) hsz5 ?_); intro v6 w6 hown hgrow)
          have H6 := H5.keep HWR.out (Keep.of_grownBy (S := fun b => wr.heap.size ≤ b) hgrow (fun r hr h => by have := hown5.out r hr; omega))
          have B6 := B5.trans ((grown_below hr5 hgrow hsz5).mono B2.size)
          have hT6 : By w6 v6 (longT k ++ bs) := By.row (l := longT k ++ bs) (by rw [show (Lib.numsL (longT k ++ bs)).map (Value.int .u8) = byV (longT k ++ bs) from rfl, byV_app]; exact hown)
          have hll : (longT k ++ bs).length ≤ 1048576 := by rw [List.length_append]; have := HLL.out; omega
          obtain ⟨q6, c6, rfl, hT6'⟩ := hT6
          have hT6 : By w6 (.slice q6 (longT k ++ bs).length c6) (longT k ++ bs) := ⟨q6, c6, rfl, hT6'⟩
          have con := Parse_any _ _ _ _ _ (HGU.out.on B6) hT6 hll
          rw [HP2.out] at con
          generalize (longT k ++ bs).length = len6 at *
          clear hown hgrow hr5 hsz5 H5 B5 hT6 hT6' hll hown5 hbl HP2 HLL HWR HBS
          go_wp2_with fail
          refine con.mono ?_
          rintro e w7 ⟨q7, m7, c7, q8, m8, c8, rfl, _, _, hb⟩
          simp only [pE]
          have hb8 : Below w7.heap.size w7 (w7.alloc (.cells #[.slice q7 m7 c7] 26)) := (Below.refl _ w7).alloc (Nat.le_refl _) _
          have H8 := (H6.on hb).on hb8
          have B8 := (B6.trans (hb.mono B6.size)).trans (hb8.mono (B6.trans (hb.mono B6.size)).size)
          have con2 := Len_any _ q 0 c [] _ H8.2
          have x0 := H8.c0
          clear con hb hb8 H6 B6 H8
          go_wp2_with fail
          refine con2.mono ?_
          rintro e w9 ⟨rfl, hb⟩
          have B9 := B8.trans (hb.mono B8.size)
          clear con2 hb B8 x0
          go_wp2
          go_ret
          exact ⟨rfl, B9⟩
        · have d64 : decide ((64 : Int) < (k : Int)) = false := by simp; omega
          have dk : ((k : Int) == (k : Int)) = true := by simp
          rw [long_ok k (by omega)] at con
          clear h64 HT HRW HBS HLL hn
          go_wp2_with fail
          refine con.mono ?_
          rintro e w4 ⟨q, m, c, q2, m2, c2, rfl, hH, _, hb⟩
          simp only [pE, pH] at hH ⊢
          obtain rfl : k = m := by have := hH.len; rwa [List.length_replicate] at this
          have hb5 : Below w4.heap.size w4 (w4.alloc (.cells #[.slice q k c] 26)) := (Below.refl _ w4).alloc (Nat.le_refl _) _
          have B4 := BW.trans (hb.mono BW.size)
          have B5 := B4.trans (hb5.mono B4.size)
          have H5 := HX.new hH
          have con2 := Len_any _ q k c _ _ H5.2
          have x0 := H5.c0
          clear con hb hb5 hH H5 B4 BW
          go_wp2_with fail
          refine con2.mono ?_
          rintro e w9 ⟨rfl, hb⟩
          have B9 := B5.trans (hb.mono B5.size)
          clear con2 hb B5 x0
          go_wp2
          go_ret
          exact ⟨rfl, B9⟩

theorem proved : Rows.HeaderLongCardSaid := card walk
end Go.Proofs.YtfgjcdjhaihgaaaDoor.headerLong
